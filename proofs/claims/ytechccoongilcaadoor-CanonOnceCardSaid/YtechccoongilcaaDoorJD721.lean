import Derived.Test.YtechccoongilcaaDoorJD714
import Derived.Test.YtechccoongilcaaDoorJD701
import Derived.Test.YtechccoongilcaaDoorJD712
import Derived.Test.YtechccoongilcaaDoorJD718
import Derived.Test.YtechccoongilcaaDoorJD715
import Derived.Test.YtechccoongilcaaDoorJD713
import Derived.Test.YtechccoongilcaaDoorJD708
import Derived.Test.YtechccoongilcaaDoorJD705
import Derived.Test.YtechccoongilcaaDoorJD700
/- The program's package read: rows of nodes compared. (Written by program: tools/drafts/geneqrow.py.) -/
namespace Go.Proofs.YtechccoongilcaaDoor
open Go.RowKit
set_option linter.unusedVariables false
set_option linter.unusedSimpArgs false
theorem encM_all' (m : NdM) : ((encM m).toArray.all (·.oneCell')) = true := by
  rw [List.all_toArray]
  exact List.all_eq_true.2 (encM_one m)
theorem pnode_to {m1 m2 : NdM} {x1 x2 : Nd} {v : Bool} (hv : ndB x1 x2 = v) (w : World) (h1 : Shows w m1 x1) (h2 : Shows w m2 x2) : Calls Tryd.prog 19 #[.agg (encM m1).toArray, .agg (encM m2).toArray] w fun e w' => e = .returned (.bool v) ∧ Below w.heap.size w w' := by
  subst hv; exact pnode_any m1 m2 x1 x2 w h1 h2
set_option maxHeartbeats 4000000 in
set_option maxRecDepth 100000 in
theorem peqfunc_any (a b : List Nd) (A B : Option Addr) (n m ca cb : Nat) (w : World) (ha : Sees w A n a) (hb : Sees w B m b) : Calls Tryd.prog 18 #[.slice A n ca, .slice B m cb, .func (.func 19) #[] #[]] w fun e w' => e = .returned (.bool (ndsB a b)) ∧ Below w.heap.size w w' := by
  have hn := ha.bound
  have hm := hb.bound
  have hla := ha.len
  have hlb := hb.len
  by_cases hnm : n = m
  rotate_left
  · have HV := Lib.hid (ndsB_len (a := a) (b := b) (by omega))
    have h1 : ((n : Int) != (m : Int)) = true := by simp; omega
    clear ha hb hla hlb
    go_enter Tryd.func18, Tryd.ntmps18
    go_wp2_with fail
    go_ret
    exact ⟨ret_bool (by rw [HV.out]), Below.refl _ _⟩
  subst hnm
  have HA := Lib.hid ha
  have HB := Lib.hid hb
  have h1 : ((n : Int) != (n : Int)) = false := by simp
  clear ha hb
  go_enter Tryd.func18, Tryd.ntmps18
  go_wp2_with fail
  go_loopw [17] (fun i wr => ∃ k : Nat, k ≤ n ∧ i = .int .i64 k ∧ (∀ j, j < k → a[j]? = b[j]?) ∧ On w wr) (fun i _ => n - (intOf i).toNat)
  case atStart => exact ⟨0, by omega, rfl, fun j hj => by omega, On.refl w⟩
  case round =>
    obtain ⟨k, hk, rfl, hall, hon⟩ := hrel
    have HL := Lib.hid hall
    have HO := Lib.hid hon
    clear hall hon
    by_cases hlt : k < n
    · obtain ⟨b1, o1, m1, x1, rfl, hb1, e1, r1, s1⟩ := (HA.out.on HO.out).at_ hlt
      obtain ⟨b2, o2, m2, x2, rfl, hb2, e2, r2, s2⟩ := (HB.out.on HO.out).at_ hlt
      have hk2 : (k : Int) < (n : Int) := by omega
      have R1 := Lib.hid (range_on r1)
      have R2 := Lib.hid (range_on r2)
      have S1 := Lib.hid s1
      have S2 := Lib.hid s2
      have E1 := Lib.hid e1
      have E2 := Lib.hid e2
      obtain ⟨v, hv⟩ : ∃ v, ndB x1 x2 = v := ⟨_, rfl⟩
      have HV := Lib.hid hv
      clear r1 r2 s1 s2 e1 e2 hv
      go_wp2_with (first | ((with_reducible refine stop_load 50 (.tmp 20) ?_ ?_); exact rfl; refine Stop.intro ?_; refine wpList_load_mid rfl 50 (.tmp 20) rfl b1 (o1 + k * 20) rfl (encM m1) _ (R1.out wr (On.refl wr)) Tryd.underlying50 rfl (by kernel_rfl) ?_) | ((with_reducible refine stop_store 50 (.tmp 8) (.tmp 21) ?_ ?_); exact rfl))
      refine Stop.intro ?_
      refine wpList_store_row rfl 50 (.tmp 8) (.tmp 21) rfl wr.heap.size rfl 50 #[.int .i64 0, .int .i64 0, .int .i64 0, .int .i64 0, .int .i64 0, .int .i64 0, .int .i64 0, .int .i64 0, .int .i64 0, .int .i64 0, .int .i64 0, .int .i64 0, .int .i64 0, .int .i64 0, .int .i64 0, .int .i64 0, .slice none 0 0, .int .i64 0, .int .i64 0, .int .i64 0] (encM m1).toArray rfl (Blk.new wr 50 [.int .i64 0, .int .i64 0, .int .i64 0, .int .i64 0, .int .i64 0, .int .i64 0, .int .i64 0, .int .i64 0, .int .i64 0, .int .i64 0, .int .i64 0, .int .i64 0, .int .i64 0, .int .i64 0, .int .i64 0, .int .i64 0, .slice none 0 0, .int .i64 0, .int .i64 0, .int .i64 0] _ rfl _ rfl) (by kernel_rfl) rfl (encM_all' m1) ?_
      intro V hV
      have hVs : V.heap.size = wr.heap.size + 1 := by rw [hV, setRow_size]; simp
      have hbV : On wr V := by rw [hV]; exact below_setRow ((Below.refl _ _).alloc (Nat.le_refl _) _) (Nat.le_refl _) _
      have HK1 := Lib.hid (show Blk V wr.heap.size 50 (encM m1) by rw [hV]; exact Blk.row (Blk.new wr 50 [.int .i64 0, .int .i64 0, .int .i64 0, .int .i64 0, .int .i64 0, .int .i64 0, .int .i64 0, .int .i64 0, .int .i64 0, .int .i64 0, .int .i64 0, .int .i64 0, .int .i64 0, .int .i64 0, .int .i64 0, .int .i64 0, .slice none 0 0, .int .i64 0, .int .i64 0, .int .i64 0] _ rfl _ rfl) _ _ rfl)
      have HVs := Lib.hid hVs
      clear hV hVs
      go_wp2_with (first | ((with_reducible refine stop_load 50 (.tmp 24) ?_ ?_); exact rfl; refine Stop.intro ?_; refine wpList_load_mid rfl 50 (.tmp 24) rfl b2 (o2 + k * 20) rfl (encM m2) _ (R2.out V hbV) Tryd.underlying50 rfl (by kernel_rfl) ?_) | ((with_reducible refine stop_store 50 (.tmp 9) (.tmp 25) ?_ ?_); exact rfl))
      refine Stop.intro ?_
      refine wpList_store_row rfl 50 (.tmp 9) (.tmp 25) rfl V.heap.size rfl 50 #[.int .i64 0, .int .i64 0, .int .i64 0, .int .i64 0, .int .i64 0, .int .i64 0, .int .i64 0, .int .i64 0, .int .i64 0, .int .i64 0, .int .i64 0, .int .i64 0, .int .i64 0, .int .i64 0, .int .i64 0, .int .i64 0, .slice none 0 0, .int .i64 0, .int .i64 0, .int .i64 0] (encM m2).toArray rfl (Blk.new V 50 [.int .i64 0, .int .i64 0, .int .i64 0, .int .i64 0, .int .i64 0, .int .i64 0, .int .i64 0, .int .i64 0, .int .i64 0, .int .i64 0, .int .i64 0, .int .i64 0, .int .i64 0, .int .i64 0, .int .i64 0, .int .i64 0, .slice none 0 0, .int .i64 0, .int .i64 0, .int .i64 0] _ rfl _ rfl) (by kernel_rfl) rfl (encM_all' m2) ?_
      intro U hU
      have hbU : On wr U := below_then hbV (by rw [hU]; exact below_setRow ((Below.refl _ _).alloc (Nat.le_refl _) _) (Nat.le_refl _) _)
      have HK2 := Lib.hid (show Blk U V.heap.size 50 (encM m2) by rw [hU]; exact Blk.row (Blk.new V 50 [.int .i64 0, .int .i64 0, .int .i64 0, .int .i64 0, .int .i64 0, .int .i64 0, .int .i64 0, .int .i64 0, .int .i64 0, .int .i64 0, .int .i64 0, .int .i64 0, .int .i64 0, .int .i64 0, .int .i64 0, .int .i64 0, .slice none 0 0, .int .i64 0, .int .i64 0, .int .i64 0] _ rfl _ rfl) _ _ rfl)
      have HK3 := Lib.hid (show Blk U wr.heap.size 50 (encM m1) by rw [hU]; exact (HK1.out.alloc _).row_other (by have := HVs.out; omega) _)
      clear hU hbV
      go_wp2_with (first | ((with_reducible refine stop_load 50 (.tmp 8) ?_ ?_); exact rfl; refine Stop.intro ?_; refine Go.Proofs.YtechccoongilcaaDoor.wpList_load_row rfl 50 (.tmp 8) rfl (wr.heap.size) rfl 50 (encM m1).toArray _ (HK3.out) Tryd.underlying50 rfl (by kernel_rfl) ?_) | ((with_reducible refine stop_load 50 (.tmp 9) ?_ ?_); exact rfl; refine Stop.intro ?_; refine Go.Proofs.YtechccoongilcaaDoor.wpList_load_row rfl 50 (.tmp 9) rfl (V.heap.size) rfl 50 (encM m2).toArray _ (HK2.out) Tryd.underlying50 rfl (by kernel_rfl) ?_))
      refine (pnode_to HV.out _ (S1.out.below hbU) (S2.out.below hbU)).mono ?_
      rintro e w5 ⟨rfl, hb5⟩
      have HO5 := Lib.hid (below_then HO.out (below_then hbU hb5))
      clear hb5 hbU
      cases v with
      | true =>
        have hxx := (ndB_iff x1 x2).1 HV.out
        subst hxx
        go_wp2_with fail
        go_roundw
        case rel => exact ⟨k + 1, by omega, by go_num, fun j hj => by
          by_cases e : j = k
          · subst e; rw [E1.out, E2.out]
          · exact HL.out j (by omega), HO5.out⟩
        case measure => simp [intOf]; omega
      | false =>
        have HW := Lib.hid (ndsB_ne E1.out E2.out (fun e => by have := (ndB_iff x1 x2).2 e; rw [HV.out] at this; cases this))
        go_wp2_with fail
        go_ret
        exact ⟨ret_bool (by rw [HW.out]), HO5.out⟩
    · have HW := Lib.hid (ndsB_all (a := a) (b := b) (by omega) (fun j hj => HL.out j (by omega)))
      have hk2 : (n : Int) ≤ (k : Int) := by omega
      go_wp2_with fail
      go_ret
      exact ⟨ret_bool (by rw [HW.out]), HO.out⟩
/-- Same tells whether two rows are. -/
theorem psame_any (a b : List Nd) (A B : Option Addr) (n m ca cb : Nat) (w : World) (ha : Sees w A n a) (hb : Sees w B m b) : Calls Tryd.prog 9 #[.slice A n ca, .slice B m cb] w fun e w' => e = .returned (.bool (ndsB a b)) ∧ Below w.heap.size w w' := by
  have HC := Lib.hid (peqfunc_any a b A B n m ca cb w ha hb)
  clear ha hb
  go_enter Tryd.func9, Tryd.ntmps9
  go_wp2_with fail
  refine HC.out.mono ?_
  rintro e w5 ⟨rfl, hb5⟩
  go_wp2_with fail
  go_ret
  exact ⟨rfl, hb5⟩
end Go.Proofs.YtechccoongilcaaDoor
/- What the program reads of a thing, and what the document's words say of it. Nothing of the program stands here. -/
namespace Go.Proofs.YtechccoongilcaaDoor
open Go
set_option linter.unusedVariables false
set_option linter.unusedSimpArgs false
theorem numS_cases {toks : List Tok} {j j' : Nat} {b' : Bool} {lo hi n : Int} (h : numS toks j false lo hi = (n, j', b')) : (b' = false ∧ nmB toks j lo hi = true ∧ n = nAt toks j ∧ j' = j + 1) ∨ (b' = true ∧ nmB toks j lo hi = false ∧ j' = j) := by
  unfold numS at h
  rcases hq : nmB toks j lo hi with _ | _
  · rw [hq] at h; simp at h; obtain ⟨rfl, rfl, rfl⟩ := h; exact .inr ⟨rfl, rfl, rfl⟩
  · rw [hq] at h; simp at h; obtain ⟨rfl, rfl, rfl⟩ := h; exact .inl ⟨rfl, rfl, rfl, rfl⟩
theorem numS_bad {toks : List Tok} {j j' : Nat} {b' : Bool} {lo hi n : Int} (h : numS toks j true lo hi = (n, j', b')) : b' = true ∧ j' = j := by
  unfold numS at h; simp at h; exact ⟨by simp [h.2.2], h.2.1.symm⟩
theorem mustS_cases {toks : List Tok} {j j' : Nat} {b' : Bool} {c : Int} (h : mustS toks j false c = (j', b')) : (b' = false ∧ sgB toks j c = true ∧ j' = j + 1) ∨ (b' = true ∧ sgB toks j c = false ∧ j' = j) := by
  unfold mustS at h
  rcases hq : sgB toks j c with _ | _
  · rw [hq] at h; simp at h; obtain ⟨rfl, rfl⟩ := h; exact .inr ⟨rfl, rfl, rfl⟩
  · rw [hq] at h; simp at h; obtain ⟨rfl, rfl⟩ := h; exact .inl ⟨rfl, rfl, rfl⟩
theorem mustS_bad {toks : List Tok} {j j' : Nat} {b' : Bool} {c : Int} (h : mustS toks j true c = (j', b')) : b' = true ∧ j' = j := by
  unfold mustS at h; simp at h; exact ⟨by simp [h.2], h.1.symm⟩
/-- one thing is read, or what is wrong. -/
def One1 (toks : List Tok) (i : Nat) (x : Nd) (j : Nat) (b : Bool) : Prop := (b = false → Parse toks false i [] (.ok [x] j)) ∧ (b = true → Parse toks false i [] (.bad j))
theorem boxS {toks : List Tok} {i j1 j2 j : Nat} {b1 b2 b : Bool} {n1 n2 : Int} (kind side e : Int) (h1 : numS toks i false 1 maxN = (n1, j1, b1)) (h2 : numS toks j1 b1 1 maxN = (n2, j2, b2)) (h3 : mustS toks j2 b2 e = (j, b)) :
    (b = false → boxR toks i kind side e = .ok [box_ kind side n1 n2] j) ∧ (b = true → boxR toks i kind side e = .bad j) := by
  unfold boxR
  rcases numS_cases h1 with ⟨rfl, q1, rfl, rfl⟩ | ⟨rfl, q1, rfl⟩
  · rcases numS_cases h2 with ⟨rfl, q2, rfl, rfl⟩ | ⟨rfl, q2, rfl⟩
    · rcases mustS_cases h3 with ⟨rfl, q3, rfl⟩ | ⟨rfl, q3, rfl⟩
      · simp [q1, q2, q3]
      · simp [q1, q2, q3]
    · obtain ⟨rfl, rfl⟩ := mustS_bad h3
      simp [q1, q2]
  · obtain ⟨rfl, rfl⟩ := numS_bad h2
    obtain ⟨rfl, rfl⟩ := mustS_bad h3
    simp [q1]
theorem one_box {toks : List Tok} {i j1 j2 j : Nat} {b1 b2 b : Bool} {n1 n2 : Int} (h0 : sgB toks i 123 = true) (h1 : numS toks (i + 1) false 1 maxN = (n1, j1, b1)) (h2 : numS toks j1 b1 1 maxN = (n2, j2, b2)) (h3 : mustS toks j2 b2 125 = (j, b)) : One1 toks i (box_ 3 0 n1 n2) j b := by
  have h := boxS 3 0 125 h1 h2 h3
  exact ⟨fun e => by rw [← h.1 e]; exact .mono h0, fun e => by rw [← h.2 e]; exact .mono h0⟩
theorem one_float {toks : List Tok} {i j0 j1 j2 j : Nat} {b0 b1 b2 b : Bool} {n0 n1 n2 : Int} (h : sgB toks i 60 = true) (h0 : sideS toks (i + 1) false = (n0, j0, b0)) (h1 : numS toks j0 b0 1 maxN = (n1, j1, b1)) (h2 : numS toks j1 b1 1 maxN = (n2, j2, b2)) (h3 : mustS toks j2 b2 62 = (j, b)) : One1 toks i (box_ 4 n0 n1 n2) j b := by
  unfold sideS at h0
  rcases hl : sgB toks (i + 1) 76 with _ | _
  · rw [hl] at h0
    simp at h0
    obtain ⟨rfl, h0⟩ := h0
    rcases mustS_cases h0 with ⟨rfl, q, rfl⟩ | ⟨rfl, q, rfl⟩
    · have k := boxS 4 2 62 h1 h2 h3
      exact ⟨fun e => by rw [← k.1 e]; exact .right h q, fun e => by rw [← k.2 e]; exact .right h q⟩
    · obtain ⟨rfl, rfl⟩ := numS_bad h1
      obtain ⟨rfl, rfl⟩ := numS_bad h2
      obtain ⟨rfl, rfl⟩ := mustS_bad h3
      exact ⟨fun e => (by cases e), fun _ => .side h hl q⟩
  · rw [hl] at h0
    simp at h0
    obtain ⟨rfl, rfl, rfl⟩ := h0
    have k := boxS 4 1 62 h1 h2 h3
    exact ⟨fun e => by rw [← k.1 e]; exact .left h hl, fun e => by rw [← k.2 e]; exact .left h hl⟩
theorem kd_sg {toks : List Tok} {j : Nat} (h : kdB toks j = true) (c : Int) : sgB toks j c = false := by
  unfold kdB at h
  unfold sgB
  rcases ht : toks[j]? with _ | t
  · rfl
  · rw [ht] at h
    simp at h
    simp [h]
theorem kd_nm {toks : List Tok} {j : Nat} (h : kdB toks j = false) (lo hi : Int) : nmB toks j lo hi = false := by
  unfold kdB at h
  unfold nmB
  rcases ht : toks[j]? with _ | t
  · rfl
  · rw [ht] at h
    simp at h
    simp [h]
theorem WordsS.words {toks : List Tok} {j jr : Nat} {b br : Bool} {ws wr : List Int} (h : WordsS toks j b ws jr br wr) : (b = true → br = true ∧ jr = j) ∧ (b = false → (br = false → Words toks j ws wr jr) ∧ (br = true → (∃ r, Words toks j ws r jr) ∧ ∀ c, sgB toks jr c = false)) := by
  induction h with
  | @stop j b ws h =>
    refine ⟨fun e => ⟨e, rfl⟩, fun e => ⟨fun _ => ?_, fun e' => (by rw [e] at e'; cases e')⟩⟩
    subst e
    exact .stop (kd_nm (by simpa using h) _ _)
  | @step j b ws n j' b' jr br wr h1 h2 h3 ih =>
    have hb : b = false := by cases b with | false => rfl | true => simp at h1
    subst hb
    have hk : kdB toks j = true := by simpa using h1
    refine ⟨fun e => (by cases e), fun _ => ?_⟩
    rcases numS_cases h2 with ⟨rfl, q, rfl, rfl⟩ | ⟨rfl, q, rfl⟩
    · obtain ⟨i1, i2⟩ := ih.2 rfl
      refine ⟨fun e => .step q (i1 e), fun e => ?_⟩
      obtain ⟨⟨r, hr⟩, hs⟩ := i2 e
      exact ⟨⟨r, .step q hr⟩, hs⟩
    · obtain ⟨rfl, rfl⟩ := ih.1 rfl
      exact ⟨fun e => (by cases e), fun _ => ⟨⟨ws, .stop q⟩, kd_sg hk⟩⟩
theorem WordsS.ne {toks : List Tok} {j jr : Nat} {b br : Bool} {ws wr : List Int} (h : WordsS toks j b ws jr br wr) (hw : ws ≠ []) : wr ≠ [] := by
  induction h with
  | stop _ => exact hw
  | step _ _ _ ih => exact ih (by simp)
theorem one_text {toks : List Tok} {i j1 j2 j3 j4 j : Nat} {b1 b2 b3 b4 b : Bool} {n1 n2 n3 : Int} {ws : List Int} (h0 : sgB toks i 40 = true) (h1 : numS toks (i + 1) false 1 maxN = (n1, j1, b1)) (h2 : numS toks j1 b1 0 maxN = (n2, j2, b2)) (h3 : numS toks j2 b2 1 maxN = (n3, j3, b3)) (h4 : WordsS toks j3 b3 [n3] j4 b4 ws) (h5 : mustS toks j4 b4 41 = (j, b)) :
    One1 toks i (txt n1 n2 ws) j b := by
  rcases numS_cases h1 with ⟨rfl, q1, rfl, rfl⟩ | ⟨rfl, q1, rfl⟩
  · rcases numS_cases h2 with ⟨rfl, q2, rfl, rfl⟩ | ⟨rfl, q2, rfl⟩
    · rcases numS_cases h3 with ⟨rfl, q3, rfl, rfl⟩ | ⟨rfl, q3, rfl⟩
      · obtain ⟨k1, k2⟩ := h4.words.2 rfl
        have hne := h4.ne (by simp)
        cases b4 with
        | false =>
          have hw : Words toks (i + 3) [] ws j4 := .step q3 (k1 rfl)
          rcases mustS_cases h5 with ⟨rfl, q5, rfl⟩ | ⟨rfl, q5, rfl⟩
          · exact ⟨fun _ => .text h0 q1 q2 hw hne q5, fun e => by cases e⟩
          · exact ⟨fun e => (by cases e), fun _ => .textW h0 q1 q2 hw (.inr q5)⟩
        | true =>
          obtain ⟨⟨r, hr⟩, hs⟩ := k2 rfl
          obtain ⟨rfl, rfl⟩ := mustS_bad h5
          exact ⟨fun e => (by cases e), fun _ => .textW h0 q1 q2 (.step q3 hr) (.inr (hs _))⟩
      · obtain ⟨rfl, rfl⟩ := h4.words.1 rfl
        obtain ⟨rfl, rfl⟩ := mustS_bad h5
        exact ⟨fun e => (by cases e), fun _ => .textW h0 q1 q2 (.stop q3) (.inl rfl)⟩
    · obtain ⟨rfl, rfl⟩ := numS_bad h3
      obtain ⟨rfl, rfl⟩ := h4.words.1 rfl
      obtain ⟨rfl, rfl⟩ := mustS_bad h5
      exact ⟨fun e => (by cases e), fun _ => .textS h0 q1 q2⟩
  · obtain ⟨rfl, rfl⟩ := numS_bad h2
    obtain ⟨rfl, rfl⟩ := numS_bad h3
    obtain ⟨rfl, rfl⟩ := h4.words.1 rfl
    obtain ⟨rfl, rfl⟩ := mustS_bad h5
    exact ⟨fun e => (by cases e), fun _ => .textL h0 q1⟩
theorem block_bad {toks : List Tok} {i j : Nat} (h0 : sgB toks i 91 = true) (h : AttrsBad toks (i + 1) j) : Parse toks false i [] (.bad j) := by
  rcases h with h | ⟨s, h, hs⟩
  · exact .blockA h0 h
  · refine .blockE (inner := []) h0 h (.stop ?_) (hs _)
    unfold opens
    simp [hs]
/-- what holds while the machine runs, and where it went wrong. -/
def Runs (toks : List Tok) (fs : List Fr) (i : Nat) (cur : List Nd) : Prop := ∀ r, Cont toks fs i cur r → Parse toks true 0 [] r
theorem Runs.one {toks : List Tok} {fs : List Fr} {i j : Nat} {cur : List Nd} {x : Nd} (h : Runs toks fs i cur) (ho : opens toks i = true) (h1 : Parse toks false i [] (.ok [x] j)) : Runs toks fs j (cur ++ [x]) := fun r hr => h r (.one ho h1 hr)
theorem Runs.enter {toks : List Tok} {fs : List Fr} {i j : Nat} {cur : List Nd} {s : Sty} (h : Runs toks fs i cur) (h0 : sgB toks i 91 = true) (h1 : Attrs toks (i + 1) .plain [] (.ok s j)) : Runs toks (⟨s, cur⟩ :: fs) j [] := fun r hr => h r (.enter h0 h1 hr)
theorem Runs.leave {toks : List Tok} {f : Fr} {fs : List Fr} {i : Nat} {cur : List Nd} (h : Runs toks (f :: fs) i cur) (h0 : sgB toks i 93 = true) : Runs toks fs (i + 1) (f.pre ++ (blk f.sty cur :: cur)) := fun r hr => h r (.leave h0 hr)
theorem one_gt {toks : List Tok} {i j : Nat} {b : Bool} {x : Nd} (h : One1 toks i x j b) : i < j ∧ (i ≤ toks.length → j ≤ toks.length) := by
  cases b with
  | false => have := (h.1 rfl).le; exact ⟨this.2.2 rfl, this.2.1⟩
  | true => have := (h.2 rfl).le; exact ⟨this.2.2 rfl, this.2.1⟩
end Go.Proofs.YtechccoongilcaaDoor
/- The program's package read: a block's beginning, a text. -/
namespace Go.Proofs.YtechccoongilcaaDoor
open Go.RowKit
set_option linter.unusedVariables false
set_option linter.unusedSimpArgs false
theorem thing_block {toks : List Tok} {size : Int} {g rb M : Nat} {w : World} {i : Nat} {row opn : Value} {s : Sty} (ho : sgB toks i 91 = true) (hl : Lets w rb g M) (h : Rd toks size g w i false row opn s (.map (some M))) (hlen : toks.length ≤ 900000) :
    Calls Tryd.prog 36 #[.pointer (some ⟨g, 0, none⟩)] w fun e w' => ∃ s' j b, e = .returned (.iface 81 (.agg (encS12 s').toArray)) ∧ Bar g w w' ∧ Rd toks size g w' j b row opn s' (.map (some M)) ∧ (b = false → Attrs toks (i + 1) .plain [] (.ok s' j)) ∧ (b = true → AttrsBad toks (i + 1) j) := by
  have H1 := Lib.hid ho
  have HL := Lib.hid hl
  have HR := Lib.hid h
  have HR0 := Lib.hid h
  clear ho h hl
  go_enter Tryd.func36, Tryd.ntmps36
  go_wp2_with fail
  refine (psign_yes H1.out HR.out).mono ?_
  rintro e w1 ⟨rfl, hb, hs1, hr⟩
  have HR := Lib.hid hr
  have HB := Lib.hid hb
  have HL1 := Lib.hid (HL.out.bar HR0.out hb)
  clear hb hr
  go_wp2_with fail
  refine (block_any HL1.out HR.out hlen).mono ?_
  rintro e w2 ⟨s', j, b, rfl, hb, hr, hp⟩
  have HR2 := Lib.hid hr
  have HB2 := Lib.hid (HB.out.trans hb)
  have HP := Lib.hid hp
  clear hb hr hp
  go_wp2_with fail
  go_ret
  exact ⟨s', j, b, rfl, HB2.out, HR2.out, HP.out⟩
theorem thing_text {toks : List Tok} {size : Int} {g : Nat} {w : World} {i j1 j2 j3 : Nat} {b1 b2 b3 : Bool} {n1 n2 n3 : Int} {row opn : Value} {s : Sty} {mp : Value} (ho : sgB toks i 40 = true)
    (hv1 : numS toks (i + 1) false 1 maxN = (n1, j1, b1)) (hv2 : numS toks j1 b1 0 maxN = (n2, j2, b2)) (hv3 : numS toks j2 b2 1 maxN = (n3, j3, b3)) (h : Rd toks size g w i false row opn s mp) (hlen : toks.length ≤ 900000) :
    Calls Tryd.prog 36 #[.pointer (some ⟨g, 0, none⟩)] w fun e w' => ∃ A m c j b ws, e = .returned (.iface 111 (.agg #[.int .i64 n1, .int .i64 n2, .slice A m c])) ∧ WordsS toks j3 b3 [n3] j b ws ∧
      w'.ownsRow w.heap.size 3 1 (.slice A m c) m (ws.map (Value.int .i64)) ∧ Bar g w w' ∧ Rd toks size g w' j b row opn s mp := by
  have H1 := Lib.hid (sgB_one ho (show (40 : Int) ≠ 91 by decide))
  have H2 := Lib.hid ho
  have HV1 := Lib.hid hv1
  have HV2 := Lib.hid hv2
  have HV3 := Lib.hid hv3
  have HR := Lib.hid h
  clear ho h hv1 hv2 hv3
  go_enter Tryd.func36, Tryd.ntmps36
  go_wp2_with fail
  refine (psign_no (by rw [H1.out]; rfl) HR.out).mono ?_
  rintro e w1 ⟨rfl, hb, hs1, hr⟩
  have HR := Lib.hid hr
  have HB := Lib.hid hb
  clear hb hr
  go_wp2_with fail
  refine (psign_yes H2.out HR.out).mono ?_
  rintro e w2 ⟨rfl, hb, hs2, hr⟩
  have HR := Lib.hid hr
  have HB := Lib.hid (HB.out.trans hb)
  clear hb hr
  go_wp2_with fail
  refine (ptext_to HV1.out HV2.out HV3.out HR.out hlen).mono ?_
  rintro e w3 ⟨A, m, c, j, b, ws, rfl, hws, ho, hb, hr⟩
  have HR2 := Lib.hid hr
  have HB2 := Lib.hid (HB.out.trans hb)
  have HO := Lib.hid (show w3.ownsRow w.heap.size 3 1 (.slice A m c) m (ws.map (Value.int .i64)) by rw [hs2, hs1] at ho; exact ho)
  have HW := Lib.hid hws
  clear hb hr ho hws
  go_wp2_with fail
  go_ret
  exact ⟨A, m, c, j, b, ws, rfl, HW.out, HO.out, HB2.out, HR2.out⟩
end Go.Proofs.YtechccoongilcaaDoor
/- The program's writer: a style's attributes. -/
namespace Go.Proofs.YtechccoongilcaaDoor
open Go.RowKit
set_option linter.unusedVariables false
set_option linter.unusedSimpArgs false
theorem Blk.kept {B b : Nat} {w w' : World} {g : Nat} {t : TypeId} {vs : List Value} (h : Blk w g t vs) (hk : Kept B b w w') (hg : g ≠ b) (ht : t ≠ 5) : Blk w' g t vs :=
  hk.2 g _ h (fun e => hg (Option.some.inj e)) (fun c fz e => ht (by injection e))
theorem Wr.lt {B b : Nat} {l : List UInt8} {w : World} (h : Wr B b l w) : b < w.heap.size := h.elim (fun x => x.lt) (fun x => x.lt)
theorem Wr.from {B b : Nat} {l : List UInt8} {w : World} (h : Wr B b l w) : B ≤ b := h.elim (fun x => x.1) (fun x => x.1)
def attL (s : Sty) : List (Nat × Int × Int) := [(109, s.top, 0), (110, s.bottom, 0), (112, s.padTop, 0), (113, s.padBottom, 0), (105, s.inset, 0), (111, s.orphans, 2), (119, s.widows, 2), (104, s.head, 0), (66, s.before, 0), (65, s.after, 0), (73, s.inside, 0), (99, s.clear, 0)]
def attP (a : Nat × Int × Int) : List Pc := attrP (a.1 : Int) a.2.1 a.2.2
theorem attL_sty (s : Sty) : (attL s).flatMap attP = styP s := by
  unfold attL styP
  simp only [List.flatMap_cons, List.flatMap_nil, attP, List.append_nil]
  rfl
theorem attL_fits {s : Sty} (h : s.fits) : ∀ a ∈ attL s, a.1 < 256 ∧ 0 ≤ a.2.1 ∧ a.2.1 ≤ 1099511627776 := by
  obtain ⟨⟨h0, h1, h2, h3, h4, h5⟩, h6, h7, h8, h9, h10, h11⟩ := h
  unfold okN maxN at *
  intro a ha
  simp only [attL, List.mem_cons, List.not_mem_nil, or_false] at ha
  rcases ha with rfl | rfl | rfl | rfl | rfl | rfl | rfl | rfl | rfl | rfl | rfl | rfl <;> simp only <;> omega
theorem atts_text (L : List (Nat × Int × Int)) (h : ∀ a ∈ L, a.1 < 256 ∧ 0 ≤ a.2.1 ∧ a.2.1 ≤ 1099511627776) : (textOf (L.flatMap attP)).length ≤ 14 * L.length := by
  induction L with
  | nil => simp [textOf]
  | cons a L ih =>
    have h1 := ih (fun y hy => h y (by simp [hy]))
    obtain ⟨_, h2, h3⟩ := h a (by simp)
    have h4 := pc_len (p := .n a.2.1.toNat) (by show a.2.1.toNat ≤ 1099511627776; omega)
    rw [List.flatMap_cons, textOf_append, List.length_append, List.length_cons]
    have h5 : (textOf (attP a)).length ≤ 14 := by
      unfold attP attrP
      split
      · simp [textOf]
      · have e : textOf [.s (a.1 : Int), .n a.2.1.toNat] = [(a.1 : Int)] ++ (Pc.n a.2.1.toNat).bytes := by simp [textOf, Pc.bytes]
        rw [e, List.length_append, List.length_singleton]
        omega
    omega
theorem att_snoc {L : List (Nat × Int × Int)} {k : Nat} {a : Nat × Int × Int} (h : L[k]? = some a) : (L.take (k + 1)).flatMap attP = (L.take k).flatMap attP ++ attP a := by
  have hk := (List.getElem?_eq_some_iff.1 h).1
  rw [List.take_succ_eq_append_getElem hk, List.flatMap_append, (List.getElem?_eq_some_iff.1 h).2]
  simp
set_option maxHeartbeats 4000000 in
set_option maxRecDepth 100000 in
theorem pen_style {B b : Nat} {l : List UInt8} {w : World} (s0 s1 s2 s3 s4 s5 s6 s7 s8 s9 s10 s11 : Int) (h : Pen B b l w) (hf : (⟨s0, s1, s2, s3, s4, s5, s6, s7, s8, s9, s10, s11⟩ : Sty).fits) (hr : Room l 168) :
    Calls Tryd.prog 39 #[.pointer (some ⟨b, 0, none⟩), .agg #[.int .i64 s0, .int .i64 s1, .int .i64 s2, .int .i64 s3, .int .i64 s4, .int .i64 s5, .int .i64 s6, .int .i64 s7, .int .i64 s8, .int .i64 s9, .int .i64 s10, .int .i64 s11]] w fun e w' => e = .returned (.tuple #[]) ∧ Wrote B b l (styP ⟨s0, s1, s2, s3, s4, s5, s6, s7, s8, s9, s10, s11⟩) w w' := by
  have H := Lib.hid h
  have HR := Lib.hid hr
  have HF := Lib.hid (attL_fits hf)
  have HS := Lib.hid (attL_sty ⟨s0, s1, s2, s3, s4, s5, s6, s7, s8, s9, s10, s11⟩)
  clear h hr hf
  go_enter Tryd.func39, Tryd.ntmps39
  go_wp2_with fail
  refine (attributes_any s0 s1 s2 s3 s4 s5 s6 s7 s8 s9 s10 s11 _).mono ?_
  rintro e w1 ⟨rfl, hb⟩
  have HO := Lib.hid (show On w w1 from below_then (show Below w.heap.size w _ by go_grown) hb)
  clear hb
  go_wp2_with fail
  go_loopw [5, 8] (fun _ i wr => ∃ k : Nat, k ≤ 12 ∧ i = .int .i64 k ∧ Wrote B b l (((attL ⟨s0, s1, s2, s3, s4, s5, s6, s7, s8, s9, s10, s11⟩).take k).flatMap attP) w wr) (fun _ i _ => 12 - (intOf i).toNat)
  case atStart => exact ⟨0, by omega, rfl, by rw [List.take_zero]; exact (Wrote.nil H.out).behind HO.out⟩
  case round =>
    obtain ⟨k, hk, rfl, hw⟩ := hrel
    have HW := Lib.hid hw
    clear hw
    by_cases hlt : k < 12
    · have hk2 : (k : Int) < 12 := by omega
      obtain ⟨⟨c, n, p⟩, ha⟩ : ∃ a, (attL ⟨s0, s1, s2, s3, s4, s5, s6, s7, s8, s9, s10, s11⟩)[k]? = some a := ⟨_, List.getElem?_eq_getElem (by exact hlt)⟩
      obtain ⟨hc, n0, n1⟩ := HF.out _ (List.mem_of_getElem? ha)
      have HA := Lib.hid ha
      have HN := Lib.hid (att_snoc ha)
      have hlen : (textOf (((attL ⟨s0, s1, s2, s3, s4, s5, s6, s7, s8, s9, s10, s11⟩).take k).flatMap attP)).length ≤ 14 * k := by
        have := atts_text ((attL ⟨s0, s1, s2, s3, s4, s5, s6, s7, s8, s9, s10, s11⟩).take k) (fun y hy => HF.out y (List.mem_of_mem_take hy))
        rw [List.length_take] at this
        omega
      have HR2 := Lib.hid (show Room (l ++ uL (((attL ⟨s0, s1, s2, s3, s4, s5, s6, s7, s8, s9, s10, s11⟩).take k).flatMap attP)) 14 from (HR.out.less (j := (textOf (((attL ⟨s0, s1, s2, s3, s4, s5, s6, s7, s8, s9, s10, s11⟩).take k).flatMap attP)).length + 14) (by omega)).on)
      have HB := Lib.hid HW.out.1.1.lt
      simp only at hc n0 n1
      clear ha hlen
      go_wp2_with ((with_reducible refine stop_dst 10 ?_ ?_); exact rfl)
      refine Stop.intro ?_
      refine wpList_value rfl (.agg #[.int .u8 (c : Int), .int .i64 n, .int .i64 p]) (by
        have ha := HA.out
        rcases (show k = 0 ∨ k = 1 ∨ k = 2 ∨ k = 3 ∨ k = 4 ∨ k = 5 ∨ k = 6 ∨ k = 7 ∨ k = 8 ∨ k = 9 ∨ k = 10 ∨ k = 11 by omega) with rfl | rfl | rfl | rfl | rfl | rfl | rfl | rfl | rfl | rfl | rfl | rfl <;>
        · injection ha with ha
          injection ha with ha1 ha2
          injection ha2 with ha2 ha3
          subst ha1 ha2 ha3
          show _ = _
          kernel_rfl) ?_
      go_wp2_with ((with_reducible refine stop_store 121 (.tmp 5) (.tmp 10) ?_ ?_); exact rfl)
      refine Stop.intro ?_
      refine wpList_store_row rfl 121 (.tmp 5) (.tmp 10) rfl wr.heap.size rfl 121 #[.int .u8 0, .int .i64 0, .int .i64 0] #[.int .u8 (c : Int), .int .i64 n, .int .i64 p] rfl (Blk.new wr 121 [.int .u8 0, .int .i64 0, .int .i64 0] _ rfl _ rfl) (by kernel_rfl) rfl (by rw [List.all_toArray]; rfl) ?_
      intro V hV
      have hVs : V.heap.size = wr.heap.size + 1 := by rw [hV, setRow_size]; simp
      have hK : Blk V wr.heap.size 121 [.int .u8 (c : Int), .int .i64 n, .int .i64 p] := by rw [hV]; exact Blk.row (Blk.new wr 121 [.int .u8 0, .int .i64 0, .int .i64 0] _ rfl _ rfl) _ _ rfl
      have HOV := Lib.hid (show On wr V by rw [hV]; exact below_setRow ((Below.refl _ _).alloc (Nat.le_refl _) _) (Nat.le_refl _) _)
      have x0 := hK.box.2.2 0 _ rfl
      have x1 := hK.box.2.2 1 _ rfl
      have x2 := hK.box.2.2 2 _ rfl
      have HK := Lib.hid hK
      clear hV hK
      by_cases hnp : n = p
      · have HP := Lib.hid (show attP (c, n, p) = [] by unfold attP attrP; rw [if_pos hnp])
        have hq : (n != p) = false := by simp [hnp]
        clear hnp
        go_wp2_with fail
        go_roundw
        case rel => exact ⟨k + 1, by omega, by go_num, by rw [HN.out, HP.out, List.append_nil]; exact HW.out.behind HOV.out⟩
        case measure => simp [intOf]; omega
      · have HP := Lib.hid (show attP (c, n, p) = [.s (c : Int)] ++ [.n n.toNat] by unfold attP attrP; rw [if_neg hnp]; rfl)
        have hq : (n != p) = true := by simp [hnp]
        have y0 := OnW.cell x0
        clear hnp
        go_wp2_with fail
        refine wp_region_on_tail 5 (by kernel_rfl) (by kernel_rfl) rfl (by kernel_rfl) ?_
        simp only [headOf, List.take_succ_cons, List.take_zero, List.getElem_toArray, List.getElem_cons_succ, List.getElem_cons_zero]
        repeat (go_big_quiet_step (fail))
        refine wpQuiet_nil ?_
        intro w3 hw'
        obtain ⟨⟨w', hOn⟩, hw''⟩ := hw'
        obtain rfl : w3 = w' := hw''
        have HO3 := Lib.hid (show On wr w3 from below_then HOV.out hOn)
        have HK3 := Lib.hid (HK.out.on hOn)
        clear hOn x0 x1 x2 y0
        go_wp2_with fail
        refine (pen_byte c (.s (c : Int)) rfl hc (HW.out.1.below HO3.out) (HR2.out.less (by decide))).mono ?_
        rintro e w4 ⟨rfl, hw4⟩
        have HW4 := Lib.hid (HW.out.trans (hw4.ahead HW.out.1.2.2 HO3.out))
        have hK4 := HK3.out.kept hw4.2 (by have := HB.out; omega) (by decide)
        have x1 := hK4.box.2.2 1 _ rfl
        clear hw4 hK4
        go_wp2_with fail
        refine (pen_number n HW4.out.1 n0 n1 (by have := HR2.out; unfold Room at *; rw [uL_append, ← List.append_assoc, List.length_append, uL_len]; show _ + 1 + 13 ≤ _; omega)).mono ?_
        rintro e w5 ⟨rfl, hw5⟩
        have HW5 := Lib.hid (HW4.out.trans hw5)
        clear hw5
        go_wp2_with fail
        go_roundw
        case rel => exact ⟨k + 1, by omega, by go_num, by rw [HN.out, HP.out, ← List.append_assoc]; exact HW5.out⟩
        case measure => simp [intOf]; omega
    · obtain rfl : k = 12 := by omega
      have HQ := Lib.hid (show Wrote B b l (styP ⟨s0, s1, s2, s3, s4, s5, s6, s7, s8, s9, s10, s11⟩) w wr by rw [← HS.out]; exact HW.out)
      go_wp2_with fail
      go_end0
      exact ⟨rfl, HQ.out⟩
end Go.Proofs.YtechccoongilcaaDoor
/- The program's writer: what stands ahead of a node's inner ones, and behind them. (Written by program: tools/drafts/genbegin.py.) -/
namespace Go.Proofs.YtechccoongilcaaDoor
open Go.RowKit
set_option linter.unusedVariables false
set_option linter.unusedSimpArgs false
/-- a node that stays there, whatever is written. -/
def NdAt (B : Nat) (w : World) (b1 o : Nat) (m : NdM) (x : Nd) : Prop := ∀ w', Below B w w' → w'.rangeAt b1 o (encM m) ∧ Shows w' m x
theorem NdAt.on {B : Nat} {w w' : World} {b1 o : Nat} {m : NdM} {x : Nd} (h : NdAt B w b1 o m x) (hb : Below B w w') : NdAt B w' b1 o m x := fun v hv => h v (hb.trans hv)
theorem NdAt.cell {B : Nat} {w : World} {b1 o : Nat} {m : NdM} {x : Nd} (h : NdAt B w b1 o m x) {j : Nat} {v : Value} (hj : (encM m)[j]? = some v) : w.cell? ⟨b1, o + j, none⟩ = some v := (h w (Below.refl _ _)).1 j v hj
theorem NdAt.cells {B : Nat} {w W : World} {b1 o : Nat} {m : NdM} {x : Nd} (h : NdAt B w b1 o m x) (hb : Below B w W) {j : Nat} {v : Value} (hj : (encM m)[j]? = some v) : W.cell? ⟨b1, o + j, none⟩ = some v := (h W hb).1 j v hj
theorem Room.pcs {l : List UInt8} {ps : List Pc} {k K : Nat} (h : Room l K) (hf : fineL ps) (hk : 13 * ps.length + k ≤ K) : Room (l ++ uL ps) k := by
  have := text_len ps hf
  exact (h.less (j := (textOf ps).length + k) (by omega)).on
theorem ints_blk {w : World} {g : Nat} {t : TypeId} {z : Int} (h : Blk w g t [.int .i64 z]) : Ints w (some ⟨g, 0, none⟩) 1 [z] :=
  ⟨rfl, by decide, fun _ => ⟨g, 0, rfl, (Array.getElem?_eq_some_iff.1 h).1, fun k hk => by
    obtain rfl : k = 0 := by omega
    exact h.box.2.2 0 _ rfl⟩⟩
theorem intsK_new {B b : Nat} {w w0 : World} {g : Nat} {z : Int} (h : Blk w g 3 [.int .i64 z]) (hg : g ≠ b) : IntsK B b w (some ⟨g, 0, none⟩) 1 [z] := fun w' hk => ints_blk (h.kept hk hg (by decide))
theorem fine_sign (c : Int) (h1 : 33 ≤ c) (h2 : c ≤ 126) (h3 : c ≠ 35) (h4 : c < 48 ∨ 57 < c) : fineL [.s c] := fine_cons ⟨h1, h2, h3, h4⟩ fine_nil
theorem fine_nat {z : Int} (h0 : 0 ≤ z) (h : z ≤ 1099511627776) : fineL [.n z.toNat] := fine_cons (by show z.toNat ≤ 1099511627776; omega) fine_nil
theorem fine_word {z : Int} (h0 : 0 ≤ z) (h : z ≤ 1099511627776) : fineL (wordsP [z]) := fine_cons (.inl rfl) (fine_nat h0 h)
def sideC (z : Int) : Int := if z = 1 then 76 else 82
theorem side_any (z : Int) (hz : z = 1 ∨ z = 2) (w : World) : Calls Tryd.prog 42 #[.int .i64 z] w fun e w' => e = .returned (.int .u8 (sideC z)) ∧ w = w' := by
  rcases hz with rfl | rfl
  · go_enter Tryd.func42, Tryd.ntmps42
    go_wp2_with fail
    go_ret
    exact ⟨rfl, rfl⟩
  · go_enter Tryd.func42, Tryd.ntmps42
    go_wp2_with fail
    go_ret
    exact ⟨rfl, rfl⟩
set_option maxHeartbeats 4000000 in
set_option maxRecDepth 100000 in
theorem pen_begin1 {B b : Nat} {l : List UInt8} {w : World} {b1 o : Nat} {m : NdM} {x : Nd} (h : Pen B b l w) (hn : NdAt B w b1 o m x) (hk : x.kind = 1) (hf : x.sty.fits) (hr : Room l (200 + 14 * x.words.length)) :
    Calls Tryd.prog 21 #[.pointer (some ⟨b, 0, none⟩), .pointer (some ⟨b1, o, none⟩)] w fun e w' => e = .returned (.tuple #[]) ∧ Wrote B b l ([.s 91] ++ styP x.sty) w w' := by
  have H := Lib.hid h
  have HN := Lib.hid hn
  have HR := Lib.hid hr
  obtain ⟨⟨e0, e1, e2, e3, e4, e5, e6, e7⟩, hI⟩ := (hn w (Below.refl _ _)).2
  have c0 : w.cell? ⟨b1, o, none⟩ = some (.int .i64 1) := by have := hn.cell (j := 0) rfl; rw [← e0, hk] at this; exact this
  have E2 := Lib.hid e2
  have E3 := Lib.hid e3
  have E4 := Lib.hid e4
  have E5 := Lib.hid e5
  have E6 := Lib.hid e6
  have E7 := Lib.hid e7
  clear h hn hr e0 e1 hI e2 e3 e4 e5 e6 e7
  go_enter Tryd.func21, Tryd.ntmps21
  go_wp2_with fail
  refine (pen_byte 91 (.s 91) rfl (by decide) H.out (HR.out.less (by omega))).mono ?_
  rintro e w1 ⟨rfl, hw⟩
  have HW1 := Lib.hid hw
  have HN1 := Lib.hid (HN.out.on hw.2.1)
  clear hw c0
  obtain ⟨t0, t1, t2, t3, t4, t5, t6, t7, t8, t9, t10, t11, hs⟩ : ∃ t0 t1 t2 t3 t4 t5 t6 t7 t8 t9 t10 t11, m.sty = ⟨t0, t1, t2, t3, t4, t5, t6, t7, t8, t9, t10, t11⟩ := ⟨_, _, _, _, _, _, _, _, _, _, _, _, rfl⟩
  have HF := Lib.hid hf
  rw [E2.out, hs] at HF
  have hrg : w1.rangeAt b1 (o + 2) [.int .i64 t0, .int .i64 t1, .int .i64 t2, .int .i64 t3, .int .i64 t4, .int .i64 t5, .int .i64 t6, .int .i64 t7, .int .i64 t8, .int .i64 t9, .int .i64 t10, .int .i64 t11] := fun j v hv => by
    have hj := (List.getElem?_eq_some_iff.1 hv).1
    have := HN1.out.cell (j := 2 + j) (v := v) (by
      unfold encM
      rw [hs]
      rw [show 2 + j = j + 1 + 1 by omega, List.getElem?_cons_succ, List.getElem?_cons_succ]
      simp only [List.length_cons, List.length_nil] at hj
      rcases (show j = 0 ∨ j = 1 ∨ j = 2 ∨ j = 3 ∨ j = 4 ∨ j = 5 ∨ j = 6 ∨ j = 7 ∨ j = 8 ∨ j = 9 ∨ j = 10 ∨ j = 11 by omega) with rfl | rfl | rfl | rfl | rfl | rfl | rfl | rfl | rfl | rfl | rfl | rfl <;> exact hv)
    rw [← Nat.add_assoc] at this
    exact this
  have HG := Lib.hid hrg
  have HE := Lib.hid (show x.sty = ⟨t0, t1, t2, t3, t4, t5, t6, t7, t8, t9, t10, t11⟩ by rw [E2.out, hs])
  clear hrg hs hf hk
  go_wp2_with ((with_reducible refine stop_load 44 (.tmp 17) ?_ ?_); exact rfl)
  refine Stop.intro ?_
  refine wpList_load_mid rfl 44 (.tmp 17) rfl b1 (o + 2) rfl [.int .i64 t0, .int .i64 t1, .int .i64 t2, .int .i64 t3, .int .i64 t4, .int .i64 t5, .int .i64 t6, .int .i64 t7, .int .i64 t8, .int .i64 t9, .int .i64 t10, .int .i64 t11] _ HG.out Tryd.underlying44 rfl (by kernel_rfl) ?_
  go_wp2_with fail
  refine (pen_style t0 t1 t2 t3 t4 t5 t6 t7 t8 t9 t10 t11 HW1.out.1 HF.out (HR.out.pcs (fine_sign 91 (by decide) (by decide) (by decide) (by decide)) (by simp only [List.length_cons, List.length_nil]; omega))).mono ?_
  rintro e w2 ⟨rfl, hw⟩
  have HW2 := Lib.hid (HW1.out.trans hw)
  rw [← HE.out] at HW2
  clear hw
  go_wp2_with fail
  go_end0
  exact ⟨rfl, HW2.out⟩
set_option maxHeartbeats 4000000 in
set_option maxRecDepth 100000 in
theorem pen_begin2 {B b : Nat} {l : List UInt8} {w : World} {b1 o : Nat} {m : NdM} {x : Nd} (h : Pen B b l w) (hn : NdAt B w b1 o m x) (hk : x.kind = 2) (line0 : 0 ≤ x.line) (line1 : x.line ≤ 1099511627776) (space0 : 0 ≤ x.space) (space1 : x.space ≤ 1099511627776) (hz : ∀ z ∈ x.words, 0 ≤ z ∧ z ≤ 1099511627776) (hr : Room l (200 + 14 * x.words.length)) :
    Calls Tryd.prog 21 #[.pointer (some ⟨b, 0, none⟩), .pointer (some ⟨b1, o, none⟩)] w fun e w' => e = .returned (.tuple #[]) ∧ Wrote B b l ([.s 40] ++ [.n x.line.toNat] ++ wordsP [x.space] ++ wordsP x.words) w w' := by
  have H := Lib.hid h
  have HN := Lib.hid hn
  have HR := Lib.hid hr
  obtain ⟨⟨e0, e1, e2, e3, e4, e5, e6, e7⟩, hI⟩ := (hn w (Below.refl _ _)).2
  have c0 : w.cell? ⟨b1, o, none⟩ = some (.int .i64 2) := by have := hn.cell (j := 0) rfl; rw [← e0, hk] at this; exact this
  have E2 := Lib.hid e2
  have E3 := Lib.hid e3
  have E4 := Lib.hid e4
  have E5 := Lib.hid e5
  have E6 := Lib.hid e6
  have E7 := Lib.hid e7
  clear h hn hr e0 e1 hI e2 e3 e4 e5 e6 e7 hk
  go_enter Tryd.func21, Tryd.ntmps21
  go_wp2_with fail
  refine (pen_byte 40 (.s 40) rfl (by decide) H.out (HR.out.less (by omega))).mono ?_
  rintro e w1 ⟨rfl, hw⟩
  have HW1 := Lib.hid hw
  have HN1 := Lib.hid (HN.out.on hw.2.1)
  clear hw c0
  have c14 := HN1.out.cell (j := 14) rfl
  rw [← E3.out] at c14
  go_wp2_with fail
  refine (pen_number x.line HW1.out.1 line0 line1 (HR.out.pcs (fine_sign 40 (by decide) (by decide) (by decide) (by decide)) (by simp only [List.length_append, List.length_cons, List.length_nil]; omega))).mono ?_
  rintro e w2 ⟨rfl, hw⟩
  have HW2 := Lib.hid (HW1.out.trans hw)
  have HN2 := Lib.hid (HN1.out.on hw.2.1)
  clear hw c14
  have c15 := HN2.out.cell (j := 15) rfl
  rw [← E4.out] at c15
  have HG2 := Lib.hid (show IntsK B b (w2.alloc (.cells #[.int .i64 x.space] 3)) (some ⟨w2.heap.size, 0, none⟩) 1 [x.space] from intsK_new (w0 := w2) (Blk.new w2 3 [.int .i64 x.space] _ rfl _ rfl) (by have := HW2.out.1.1.lt; omega))
  have HA2 := Lib.hid (show Below w2.heap.size w2 (w2.alloc (.cells #[.int .i64 x.space] 3)) from (Below.refl _ _).alloc (Nat.le_refl _) _)
  go_wp2_with fail
  refine (pen_numbers _ 1 1 [x.space] (HW2.out.1.below HA2.out) HG2.out (fun y hy => by simp at hy; subst hy; exact ⟨space0, space1⟩) (HR.out.pcs (fine_append (fine_sign 40 (by decide) (by decide) (by decide) (by decide)) (fine_nat line0 line1)) (by simp only [List.length_append, List.length_cons, List.length_nil]; omega))).mono ?_
  rintro e w3 ⟨rfl, hw⟩
  have HW3 := Lib.hid (HW2.out.trans (hw.ahead HW2.out.1.2.2 HA2.out))
  have HN3 := Lib.hid ((HN2.out.on (HA2.out.mono HW2.out.1.2.2)).on hw.2.1)
  clear hw c15
  have c16 := HN3.out.cell (j := 16) rfl
  have HG := Lib.hid (show IntsK B b w3 m.A m.n x.words from fun v hv => (HN3.out v hv.1).2.2)
  have hwl : m.n = x.words.length := (HN3.out w3 (Below.refl _ _)).2.2.1.symm
  have HZ := Lib.hid hz
  have HL := Lib.hid hwl
  clear hz hwl
  go_wp2_with fail
  refine (pen_numbers _ _ _ x.words HW3.out.1 HG.out HZ.out (HR.out.pcs (fine_append (fine_append (fine_sign 40 (by decide) (by decide) (by decide) (by decide)) (fine_nat line0 line1)) (fine_word space0 space1)) (by rw [HL.out]; simp only [List.length_append, wordsP_len, List.length_cons, List.length_nil]; omega))).mono ?_
  rintro e w4 ⟨rfl, hw⟩
  have HW4 := Lib.hid (HW3.out.trans hw)
  clear hw c16
  go_wp2_with fail
  go_end0
  exact ⟨rfl, HW4.out⟩
set_option maxHeartbeats 4000000 in
set_option maxRecDepth 100000 in
theorem pen_begin3 {B b : Nat} {l : List UInt8} {w : World} {b1 o : Nat} {m : NdM} {x : Nd} (h : Pen B b l w) (hn : NdAt B w b1 o m x) (hk : x.kind = 3) (wl : 0 ≤ x.w) (wh : x.w ≤ 1099511627776) (hl : 0 ≤ x.h) (hh : x.h ≤ 1099511627776) (hr : Room l (200 + 14 * x.words.length)) :
    Calls Tryd.prog 21 #[.pointer (some ⟨b, 0, none⟩), .pointer (some ⟨b1, o, none⟩)] w fun e w' => e = .returned (.tuple #[]) ∧ Wrote B b l ([.s 123] ++ [.n x.w.toNat] ++ wordsP [x.h]) w w' := by
  have H := Lib.hid h
  have HN := Lib.hid hn
  have HR := Lib.hid hr
  obtain ⟨⟨e0, e1, e2, e3, e4, e5, e6, e7⟩, hI⟩ := (hn w (Below.refl _ _)).2
  have c0 : w.cell? ⟨b1, o, none⟩ = some (.int .i64 3) := by have := hn.cell (j := 0) rfl; rw [← e0, hk] at this; exact this
  have E2 := Lib.hid e2
  have E3 := Lib.hid e3
  have E4 := Lib.hid e4
  have E5 := Lib.hid e5
  have E6 := Lib.hid e6
  have E7 := Lib.hid e7
  clear h hn hr e0 e1 hI e2 e3 e4 e5 e6 e7 hk
  go_enter Tryd.func21, Tryd.ntmps21
  go_wp2_with fail
  refine (pen_byte 123 (.s 123) rfl (by decide) H.out (HR.out.less (by omega))).mono ?_
  rintro e w1 ⟨rfl, hw⟩
  have HW1 := Lib.hid hw
  have HN1 := Lib.hid (HN.out.on hw.2.1)
  clear hw c0
  have c18 := HN1.out.cell (j := 18) rfl
  rw [← E6.out] at c18
  go_wp2_with fail
  refine (pen_number x.w HW1.out.1 wl wh (HR.out.pcs (fine_sign 123 (by decide) (by decide) (by decide) (by decide)) (by simp only [List.length_append, List.length_cons, List.length_nil]; omega))).mono ?_
  rintro e w2 ⟨rfl, hw⟩
  have HW2 := Lib.hid (HW1.out.trans hw)
  have HN2 := Lib.hid (HN1.out.on hw.2.1)
  clear hw c18
  have c19 := HN2.out.cell (j := 19) rfl
  rw [← E7.out] at c19
  have HG2 := Lib.hid (show IntsK B b (w2.alloc (.cells #[.int .i64 x.h] 3)) (some ⟨w2.heap.size, 0, none⟩) 1 [x.h] from intsK_new (w0 := w2) (Blk.new w2 3 [.int .i64 x.h] _ rfl _ rfl) (by have := HW2.out.1.1.lt; omega))
  have HA2 := Lib.hid (show Below w2.heap.size w2 (w2.alloc (.cells #[.int .i64 x.h] 3)) from (Below.refl _ _).alloc (Nat.le_refl _) _)
  go_wp2_with fail
  refine (pen_numbers _ 1 1 [x.h] (HW2.out.1.below HA2.out) HG2.out (fun y hy => by simp at hy; subst hy; exact ⟨hl, hh⟩) (HR.out.pcs (fine_append (fine_sign 123 (by decide) (by decide) (by decide) (by decide)) (fine_nat wl wh)) (by simp only [List.length_append, List.length_cons, List.length_nil]; omega))).mono ?_
  rintro e w3 ⟨rfl, hw⟩
  have HW3 := Lib.hid (HW2.out.trans (hw.ahead HW2.out.1.2.2 HA2.out))
  have HN3 := Lib.hid ((HN2.out.on (HA2.out.mono HW2.out.1.2.2)).on hw.2.1)
  clear hw c19
  go_wp2_with fail
  go_end0
  exact ⟨rfl, HW3.out⟩
set_option maxHeartbeats 4000000 in
set_option maxRecDepth 100000 in
theorem pen_begin4 {B b : Nat} {l : List UInt8} {w : World} {b1 o : Nat} {m : NdM} {x : Nd} (h : Pen B b l w) (hn : NdAt B w b1 o m x) (hk : x.kind = 4) (hs : x.side = 1 ∨ x.side = 2) (wl : 0 ≤ x.w) (wh : x.w ≤ 1099511627776) (hl : 0 ≤ x.h) (hh : x.h ≤ 1099511627776) (hr : Room l (200 + 14 * x.words.length)) :
    Calls Tryd.prog 21 #[.pointer (some ⟨b, 0, none⟩), .pointer (some ⟨b1, o, none⟩)] w fun e w' => e = .returned (.tuple #[]) ∧ Wrote B b l ([.s 60] ++ [.s (sideC x.side)] ++ [.n x.w.toNat] ++ wordsP [x.h]) w w' := by
  have H := Lib.hid h
  have HN := Lib.hid hn
  have HR := Lib.hid hr
  obtain ⟨⟨e0, e1, e2, e3, e4, e5, e6, e7⟩, hI⟩ := (hn w (Below.refl _ _)).2
  have c0 : w.cell? ⟨b1, o, none⟩ = some (.int .i64 4) := by have := hn.cell (j := 0) rfl; rw [← e0, hk] at this; exact this
  have E2 := Lib.hid e2
  have E3 := Lib.hid e3
  have E4 := Lib.hid e4
  have E5 := Lib.hid e5
  have E6 := Lib.hid e6
  have E7 := Lib.hid e7
  clear h hn hr e0 e1 hI e2 e3 e4 e5 e6 e7 hk
  go_enter Tryd.func21, Tryd.ntmps21
  go_wp2_with fail
  refine (pen_byte 60 (.s 60) rfl (by decide) H.out (HR.out.less (by omega))).mono ?_
  rintro e w1 ⟨rfl, hw⟩
  have HW1 := Lib.hid hw
  have HN1 := Lib.hid (HN.out.on hw.2.1)
  clear hw c0
  have c17 := HN1.out.cell (j := 17) rfl
  rw [← E5.out] at c17
  have y17 := OnW.cell c17
  obtain ⟨q, hq, hq1⟩ : ∃ q : Nat, sideC x.side = (q : Int) ∧ (q = 76 ∨ q = 82) := by
    rcases hs with e | e <;> rw [e]
    · exact ⟨76, rfl, .inl rfl⟩
    · exact ⟨82, rfl, .inr rfl⟩
  have HS := Lib.hid (fun p : OnW w1 => ((side_any x.side hs p.w).mono (fun e w' h => (⟨by rw [h.1, hq], by rw [← h.2]; exact Below.refl _ _⟩ : e = .returned (.int .u8 (q : Int)) ∧ Below p.w.heap.size p.w w')) : Calls Tryd.prog 42 #[.int .i64 x.side] p.w fun e w' => e = .returned (.int .u8 (q : Int)) ∧ Below p.w.heap.size p.w w'))
  have HQ := Lib.hid hq
  clear hq hs
  go_wp2_with fail
  refine wp_region_on_tail 8 (by kernel_rfl) (by kernel_rfl) rfl (by kernel_rfl) ?_
  simp only [headOf, List.take_succ_cons, List.take_zero, List.getElem_toArray, List.getElem_cons_succ, List.getElem_cons_zero]
  repeat (go_big_quiet_step ((go_at_call 42; with_reducible exact Calls.on_of (HS.out _))))
  refine wpQuiet_nil ?_
  intro wx hw'
  obtain ⟨⟨w', hOn⟩, hw''⟩ := hw'
  obtain rfl : wx = w' := hw''
  have HX := Lib.hid hOn
  clear hOn c17 y17
  go_wp2_with fail
  refine (pen_byte q (.s (q : Int)) rfl (by omega) (HW1.out.1.below HX.out) (HR.out.pcs (fine_sign 60 (by decide) (by decide) (by decide) (by decide)) (by simp only [List.length_cons, List.length_nil]; omega))).mono ?_
  rintro e w2 ⟨rfl, hw⟩
  have HW2 := Lib.hid (HW1.out.trans (hw.ahead HW1.out.1.2.2 HX.out))
  have HN2 := Lib.hid ((HN1.out.on (HX.out.mono HW1.out.1.2.2)).on hw.2.1)
  rw [← HQ.out] at HW2
  have HF := Lib.hid (show fineL ([.s 60] ++ [.s (sideC x.side)]) from fine_append (fine_sign 60 (by decide) (by decide) (by decide) (by decide)) (by rw [HQ.out]; exact fine_sign _ (by omega) (by omega) (by omega) (by omega)))
  clear hw hq1
  have c18 := HN2.out.cell (j := 18) rfl
  rw [← E6.out] at c18
  go_wp2_with fail
  refine (pen_number x.w HW2.out.1 wl wh (HR.out.pcs HF.out (by simp only [List.length_append, List.length_cons, List.length_nil]; omega))).mono ?_
  rintro e w3 ⟨rfl, hw⟩
  have HW3 := Lib.hid (HW2.out.trans hw)
  have HN3 := Lib.hid (HN2.out.on hw.2.1)
  clear hw c18
  have c19 := HN3.out.cell (j := 19) rfl
  rw [← E7.out] at c19
  have HG3 := Lib.hid (show IntsK B b (w3.alloc (.cells #[.int .i64 x.h] 3)) (some ⟨w3.heap.size, 0, none⟩) 1 [x.h] from intsK_new (w0 := w3) (Blk.new w3 3 [.int .i64 x.h] _ rfl _ rfl) (by have := HW3.out.1.1.lt; omega))
  have HA3 := Lib.hid (show Below w3.heap.size w3 (w3.alloc (.cells #[.int .i64 x.h] 3)) from (Below.refl _ _).alloc (Nat.le_refl _) _)
  go_wp2_with fail
  refine (pen_numbers _ 1 1 [x.h] (HW3.out.1.below HA3.out) HG3.out (fun y hy => by simp at hy; subst hy; exact ⟨hl, hh⟩) (HR.out.pcs (fine_append HF.out (fine_nat wl wh)) (by simp only [List.length_append, List.length_cons, List.length_nil]; omega))).mono ?_
  rintro e w4 ⟨rfl, hw⟩
  have HW4 := Lib.hid (HW3.out.trans (hw.ahead HW3.out.1.2.2 HA3.out))
  have HN4 := Lib.hid ((HN3.out.on (HA3.out.mono HW3.out.1.2.2)).on hw.2.1)
  clear hw c19
  go_wp2_with fail
  go_end0
  exact ⟨rfl, HW4.out⟩
def endC (k : Int) : Int := if k = 1 then 93 else if k = 2 then 41 else if k = 3 then 125 else 62
set_option maxHeartbeats 1000000 in
set_option maxRecDepth 100000 in
theorem pen_end {B b : Nat} {l : List UInt8} {w : World} (k : Int) (hk : k = 1 ∨ k = 2 ∨ k = 3 ∨ k = 4) (h : Pen B b l w) (hr : Room l 1) :
    Calls Tryd.prog 22 #[.pointer (some ⟨b, 0, none⟩), .int .i64 k] w fun e w' => e = .returned (.tuple #[]) ∧ Wrote B b l [.s (endC k)] w w' := by
  have H := Lib.hid h
  have HR := Lib.hid hr
  clear h hr
  rcases hk with rfl | rfl | rfl | rfl
  · go_enter Tryd.func22, Tryd.ntmps22
    go_wp2_with fail
    refine (pen_byte 93 (.s 93) rfl (by decide) H.out HR.out).mono ?_
    rintro e w1 ⟨rfl, hw⟩
    have HW1 := Lib.hid hw
    clear hw
    go_wp2_with fail
    go_end0
    exact ⟨rfl, HW1.out⟩
  · go_enter Tryd.func22, Tryd.ntmps22
    go_wp2_with fail
    refine (pen_byte 41 (.s 41) rfl (by decide) H.out HR.out).mono ?_
    rintro e w1 ⟨rfl, hw⟩
    have HW1 := Lib.hid hw
    clear hw
    go_wp2_with fail
    go_end0
    exact ⟨rfl, HW1.out⟩
  · go_enter Tryd.func22, Tryd.ntmps22
    go_wp2_with fail
    refine (pen_byte 125 (.s 125) rfl (by decide) H.out HR.out).mono ?_
    rintro e w1 ⟨rfl, hw⟩
    have HW1 := Lib.hid hw
    clear hw
    go_wp2_with fail
    go_end0
    exact ⟨rfl, HW1.out⟩
  · go_enter Tryd.func22, Tryd.ntmps22
    go_wp2_with fail
    refine (pen_byte 62 (.s 62) rfl (by decide) H.out HR.out).mono ?_
    rintro e w1 ⟨rfl, hw⟩
    have HW1 := Lib.hid hw
    clear hw
    go_wp2_with fail
    go_end0
    exact ⟨rfl, HW1.out⟩
end Go.Proofs.YtechccoongilcaaDoor
/- The program's closure that writes a node with all within it. -/
namespace Go.Proofs.YtechccoongilcaaDoor
open Go.RowKit
set_option linter.unusedVariables false
set_option linter.unusedSimpArgs false
/-- what stands ahead of a node's inner ones. -/
def beginP (x : Nd) : List Pc :=
  if x.kind = 1 then [.s 91] ++ styP x.sty
  else if x.kind = 2 then [.s 40] ++ [.n x.line.toNat] ++ wordsP [x.space] ++ wordsP x.words
  else if x.kind = 3 then [.s 123] ++ [.n x.w.toNat] ++ wordsP [x.h]
  else [.s 60] ++ [.s (sideC x.side)] ++ [.n x.w.toNat] ++ wordsP [x.h]
theorem beginP_len (x : Nd) : (beginP x).length ≤ 26 + 2 * x.words.length := by
  have h1 := styP_len x.sty
  unfold beginP
  split
  · simp only [List.length_append, List.length_cons, List.length_nil]; omega
  split
  · simp only [List.length_append, wordsP_len, List.length_cons, List.length_nil]; omega
  split
  · simp only [List.length_append, wordsP_len, List.length_cons, List.length_nil]; omega
  · simp only [List.length_append, wordsP_len, List.length_cons, List.length_nil]; omega
theorem fits_kind {x : Nd} (h : x.fits) : x.kind = 1 ∨ x.kind = 2 ∨ x.kind = 3 ∨ x.kind = 4 := by
  rcases h with ⟨e, _⟩ | ⟨e, _⟩ | ⟨e, _⟩ | ⟨e, _⟩
  · exact .inl e
  · exact .inr (.inl e)
  · exact .inr (.inr (.inl e))
  · exact .inr (.inr (.inr e))
theorem beginP_fine {x : Nd} (h : x.fits) : fineL (beginP x) := by
  rcases h with ⟨e, hs, _⟩ | ⟨e, _, ⟨a1, a2⟩, ⟨b1, b2⟩, _, hw, _⟩ | ⟨e, _, _, _, _, ⟨a1, a2⟩, ⟨b1, b2⟩, _⟩ | ⟨e, _, _, _, _, ⟨a1, a2⟩, ⟨b1, b2⟩, ⟨c1, c2⟩⟩
  · unfold beginP
    rw [if_pos e]
    exact fine_append (fine_sign 91 (by decide) (by decide) (by decide) (by decide)) (fine_sty hs)
  · unfold beginP
    unfold maxN at a2 b2
    rw [if_neg (by omega), if_pos e]
    exact fine_append (fine_append (fine_append (fine_sign 40 (by decide) (by decide) (by decide) (by decide)) (fine_nat (by omega) a2)) (fine_word (by omega) b2)) (fine_words _ hw)
  · unfold beginP
    unfold maxN at a2 b2
    rw [if_neg (by omega), if_neg (by omega), if_pos e]
    exact fine_append (fine_append (fine_sign 123 (by decide) (by decide) (by decide) (by decide)) (fine_nat (by omega) a2)) (fine_word (by omega) b2)
  · unfold beginP
    unfold maxN at a2 b2
    rw [if_neg (by omega), if_neg (by omega), if_neg (by omega)]
    refine fine_append (fine_append (fine_append (fine_sign 60 (by decide) (by decide) (by decide) (by decide)) ?_) (fine_nat (by omega) a2)) (fine_word (by omega) b2)
    rcases (show x.side = 1 ∨ x.side = 2 by omega) with e | e <;> rw [e]
    · exact fine_sign 76 (by decide) (by decide) (by decide) (by decide)
    · exact fine_sign 82 (by decide) (by decide) (by decide) (by decide)
theorem pen_begin {B b : Nat} {l : List UInt8} {w : World} {b1 o : Nat} {m : NdM} {x : Nd} (hx : x.fits) (h : Pen B b l w) (hn : NdAt B w b1 o m x) (hr : Room l (200 + 14 * x.words.length)) :
    Calls Tryd.prog 21 #[.pointer (some ⟨b, 0, none⟩), .pointer (some ⟨b1, o, none⟩)] w fun e w' => e = .returned (.tuple #[]) ∧ Wrote B b l (beginP x) w w' := by
  rcases hx with ⟨e, hs, _⟩ | ⟨e, _, ⟨a1, a2⟩, ⟨b1, b2⟩, _, hw, _⟩ | ⟨e, _, _, _, _, ⟨a1, a2⟩, ⟨b1, b2⟩, _⟩ | ⟨e, _, _, _, _, ⟨a1, a2⟩, ⟨b1, b2⟩, ⟨c1, c2⟩⟩
  · unfold beginP
    rw [if_pos e]
    exact pen_begin1 h hn e hs hr
  · unfold beginP
    unfold maxN at a2 b2
    rw [if_neg (by omega), if_pos e]
    exact pen_begin2 h hn e (by omega) a2 (by omega) b2 (fun z hz => by have := hw z hz; unfold okN maxN at this; omega) hr
  · unfold beginP
    unfold maxN at a2 b2
    rw [if_neg (by omega), if_neg (by omega), if_pos e]
    exact pen_begin3 h hn e (by omega) a2 (by omega) b2 hr
  · unfold beginP
    unfold maxN at a2 b2
    rw [if_neg (by omega), if_neg (by omega), if_neg (by omega)]
    exact pen_begin4 h hn e (by omega) (by omega) a2 (by omega) b2 hr
/-- a node's text. -/
theorem node_can {x : Nd} {inner : List Nd} (b : List Pc) (hs : x.size = 1 + (inner.length : Int)) (hk : x.kind ≠ 1 → inner = []) (hx : x.fits) : canP b (x :: inner) = beginP x ++ canP [] inner ++ [.s (endC x.kind)] ++ b := by
  have h := canP_cons b x inner [] hs
  rw [List.append_nil, canP_nil, List.append_nil] at h
  rw [h]
  by_cases h1 : x.kind = 1
  · rw [if_pos h1]
    unfold beginP endC
    rw [if_pos h1, if_pos h1]
  · rw [if_neg h1]
    have hi := hk h1
    subst hi
    rw [canP_nil, List.append_nil]
    unfold beginP endC leafP
    rcases hx with ⟨e, _⟩ | ⟨e, _⟩ | ⟨e, _⟩ | ⟨e, _, _, _, _, _, _, ⟨c1, c2⟩⟩
    · exact absurd e h1
    · simp [e, wordsP]
    · simp [e, wordsP]
    · rcases (show x.side = 1 ∨ x.side = 2 by omega) with h2 | h2 <;> simp [e, h2, sideC, wordsP]
theorem forest_front {q : List Nd} (h : Forest q) (hne : q ≠ []) : ∃ y i r, q = y :: (i ++ r) ∧ y.size = 1 + (i.length : Int) ∧ (y.kind ≠ 1 → i = []) ∧ Forest i ∧ Forest r := by
  cases h with
  | nil => exact absurd rfl hne
  | cons h1 h2 h3 h4 => exact ⟨_, _, _, rfl, h1, h2, h3, h4⟩
theorem forest_one {y : Nd} {i : List Nd} (h1 : y.size = 1 + (i.length : Int)) (h2 : y.kind ≠ 1 → i = []) (h3 : Forest i) : Forest (y :: i) := by
  have := Forest.cons h1 h2 h3 .nil
  rwa [List.append_nil] at this
/-- the variables that the closure has captured. -/
def Env (b bl bn : Nat) (A : Option Addr) (n c : Nat) (w : World) : Prop :=
  Blk w bl 27 [.slice A n c] ∧ Blk w bn 58 [.func (.func 20) #[] #[.pointer (some ⟨b, 0, none⟩), .pointer (some ⟨bl, 0, none⟩), .pointer (some ⟨bn, 0, none⟩)]] ∧ bl ≠ b ∧ bn ≠ b
theorem Env.kept {B b bl bn : Nat} {A : Option Addr} {n c : Nat} {w w' : World} (h : Env b bl bn A n c w) (hk : Kept B b w w') : Env b bl bn A n c w' :=
  ⟨h.1.kept hk h.2.2.1 (by decide), h.2.1.kept hk h.2.2.2 (by decide), h.2.2⟩
theorem ndAt_of {W w : World} {A : Option Addr} {n k : Nat} {L : List Nd} {x : Nd} (hS : Sees W A n L) (hx : L[k]? = some x) (hO : On W w) : ∃ b1 o m, A = some ⟨b1, o, none⟩ ∧ NdAt W.heap.size w b1 (o + k * 20) m x := by
  have hk := (List.getElem?_eq_some_iff.1 hx).1
  rw [hS.len] at hk
  obtain ⟨b1, o, m, x', rfl, _, e, r, s⟩ := hS.at_ hk
  rw [hx] at e
  injection e with e
  subst e
  exact ⟨b1, o, m, rfl, fun v hv => ⟨range_on r v (hO.trans hv), s.below (hO.trans hv)⟩⟩
set_option maxHeartbeats 4000000 in
set_option maxRecDepth 100000 in
theorem node_all (W : World) (A : Option Addr) (n c b bl bn : Nat) (L : List Nd) (hS : Sees W A n L) (hn : n ≤ 100000) : ∀ (N : Nat) (x : Nd) (inner pre post : List Nd) (k : Nat) (l : List UInt8) (w : World),
    inner.length ≤ N → pre.length = k → L = pre ++ x :: (inner ++ post) → x.size = 1 + (inner.length : Int) → (x.kind ≠ 1 → inner = []) → Forest inner → (∀ y ∈ x :: inner, y.fits) → On W w → Env b bl bn A n c w → Pen W.heap.size b l w → Room l (13 * wts (x :: inner)) →
    Calls Tryd.prog 20 #[.int .i64 (k : Int), .pointer (some ⟨b, 0, none⟩), .pointer (some ⟨bl, 0, none⟩), .pointer (some ⟨bn, 0, none⟩)] w fun e w' => e = .returned (.int .i64 (((k + 1 + inner.length : Nat)) : Int)) ∧ Wrote W.heap.size b l (canP [] (x :: inner)) w w' := by
  intro N
  induction N using Nat.strongRecOn with
  | _ N ih =>
  intro x inner pre post k l w hN hpk hL hs hk hF hfit hO hE hP hr
  have IH := Lib.hid ih
  have HL := Lib.hid hL
  have HPK := Lib.hid hpk
  have hxk : L[k]? = some x := by rw [hL, ← hpk, List.getElem?_append_right (Nat.le_refl _), Nat.sub_self]; rfl
  have hlen : k + 1 + inner.length + post.length = n := by
    have := hS.len
    rw [hL] at this
    simp only [List.length_append, List.length_cons] at this
    omega
  obtain ⟨b1, o1, m, rfl, hnd⟩ := ndAt_of hS hxk hO
  have hx := hfit x (by simp)
  have HN := Lib.hid hnd
  have HX := Lib.hid hx
  have HC := Lib.hid (node_can [] hs hk hx)
  have HF := Lib.hid hF
  have HFI := Lib.hid hfit
  have HO := Lib.hid hO
  have HE := Lib.hid hE
  have HP := Lib.hid hP
  have HR := Lib.hid hr
  have hms : m.size = 1 + (inner.length : Int) := by rw [← hs]; exact (hnd w (Below.refl _ _)).2.1.2.1.symm
  have HKD := Lib.hid (show x.kind = m.kind from (hnd w (Below.refl _ _)).2.1.1)
  obtain ⟨z, hz⟩ : ∃ z, m.size = z := ⟨_, rfl⟩
  rw [hz] at hms
  have HM := Lib.hid hms
  have HZ := Lib.hid hz
  have HSS := Lib.hid hs
  have hzl : (k : Int) + z ≤ (n : Int) := by omega
  have hz1 : 1 ≤ z := by omega
  have hkn : (k : Int) < (n : Int) := by omega
  have hkn' : k < n := by omega
  have HWT := Lib.hid (wts_cons x inner)
  have HBL := Lib.hid (beginP_len x)
  have HBF := Lib.hid (beginP_fine hx)
  have ca := hE.1.box.2.2 0 _ rfl
  clear ih hL hpk hxk hnd hx hs hk hF hfit hO hE hP hr hms hz
  go_enter Tryd.func20, Tryd.ntmps20
  go_wp2_with fail
  refine (pen_begin HX.out HP.out HN.out (HR.out.less (by have := HWT.out; omega))).mono ?_
  rintro e w1 ⟨rfl, hw⟩
  have HW := Lib.hid hw
  clear hw ca
  go_wp2_with fail
  go_loopw [6] (fun nx wr => ∃ (j : Nat) (p q : List Nd), nx = .int .i64 ((k + 1 + j : Nat) : Int) ∧ Hid (inner = p ++ q) ∧ p.length = j ∧ j ≤ inner.length ∧ Hid (Forest p) ∧ Hid (Forest q) ∧ Wrote W.heap.size b l (beginP x ++ canP [] p) w wr) (fun nx _ => k + 1 + inner.length - (intOf nx).toNat)
  case atStart => exact ⟨0, [], inner, by go_num, Lib.hid rfl, rfl, Nat.zero_le _, Lib.hid .nil, Lib.hid HF.out, by rw [canP_nil, List.append_nil]; exact HW.out⟩
  case round =>
    obtain ⟨j, p, q, rfl, HI, hpj, hjl, HFp, HFq, hw⟩ := hrel
    have HWr := Lib.hid hw
    have hE1 := HE.out.kept hw.2
    have HE1 := Lib.hid hE1
    have ca := hE1.1.box.2.2 0 _ rfl
    have cf := hE1.2.1.box.2.2 0 _ rfl
    have cs := (HN.out.on hw.2.1).cell (j := 1) rfl
    rw [HZ.out] at cs
    have hql : p.length + q.length = inner.length := by rw [HI.out, List.length_append]
    have hmz := HM.out
    clear hw hE1
    by_cases hq : q = []
    · have hjz : (k : Int) + z ≤ ((k + 1 + j : Nat) : Int) := by subst hq; simp at hql; omega
      have ck : wr.cell? ⟨b1, o1 + k * 20, none⟩ = some (.int .i64 m.kind) := (HN.out.on HWr.out.2.1).cell (j := 0) rfl
      have HPI := Lib.hid (show p = inner by rw [HI.out, hq, List.append_nil])
      have HJ := Lib.hid (show j = inner.length by rw [← HPI.out]; exact hpj.symm)
      clear hmz hq
      go_wp2_with fail
      rw [← HKD.out]
      refine (pen_end x.kind (fits_kind HX.out) HWr.out.1 (HR.out.pcs (fine_append HBF.out (fine_can HFp.out (fun y hy => HFI.out y (by rw [HPI.out] at hy; simp [hy])) [] fine_nil)) (by
        have h1 := can_len HFp.out [] (by simp)
        have h2 := HWT.out
        have h3 := HBL.out
        rw [HPI.out] at h1 ⊢
        rw [List.length_append]
        omega))).mono ?_
      rintro e w2 ⟨rfl, hw2⟩
      have HQ := Lib.hid (show Wrote W.heap.size b l (canP [] (x :: inner)) w w2 by
        have h := HWr.out.trans hw2
        rw [HPI.out] at h
        rw [HC.out, List.append_nil]
        exact h)
      clear hw2 ck ca cf cs
      go_wp2_with fail
      go_ret
      exact ⟨ret_int (by have := HJ.out; omega), HQ.out⟩
    · obtain ⟨y, i, r, hqe, hy1, hy2, hfi, hfr⟩ := forest_front HFq.out hq
      have hil : p.length + (1 + (i.length + r.length)) = inner.length := by rw [← hql, hqe]; simp; omega
      have hjz : ((k + 1 + j : Nat) : Int) < (k : Int) + z := by omega
      have HI2 := Lib.hid (show inner = p ++ y :: (i ++ r) by rw [HI.out, hqe])
      have HLL := Lib.hid (show L = (pre ++ x :: p) ++ y :: (i ++ (r ++ post)) by rw [HL.out, HI2.out]; simp)
      have HY1 := Lib.hid hy1
      have HY2 := Lib.hid hy2
      have HFi := Lib.hid hfi
      have HFr := Lib.hid hfr
      have HPL := Lib.hid (show (pre ++ x :: p).length = k + 1 + j by have := HPK.out; simp; omega)
      have HYF := Lib.hid (show ∀ u ∈ y :: i, u.fits from fun u hu => HFI.out u (by rw [HI2.out]; exact List.mem_cons_of_mem _ (List.mem_append_right _ (by rw [← List.cons_append]; exact List.mem_append_left _ hu))))
      have HPF := Lib.hid (show ∀ u ∈ p, u.fits from fun u hu => HFI.out u (by rw [HI2.out]; simp [hu]))
      have HRY := Lib.hid (show Room (l ++ uL (beginP x ++ canP [] p)) (13 * wts (y :: i)) from HR.out.pcs (fine_append HBF.out (fine_can HFp.out HPF.out [] fine_nil)) (by
        have h1 := can_len HFp.out [] (by simp)
        have h2 := HWT.out
        have h3 := HBL.out
        have h4 : wts inner = wts p + (wts (y :: i) + wts r) := by rw [HI2.out, wts_append, ← List.cons_append, wts_append]
        rw [List.length_append]
        omega))
      clear hmz hq hqe hy1 hy2 hfi hfr
      go_wp2_with fail
      refine (IH.out i.length (by omega) y i (pre ++ x :: p) (r ++ post) (k + 1 + j) _ wr (Nat.le_refl _) HPL.out HLL.out HY1.out HY2.out HFi.out HYF.out (HO.out.trans HWr.out.2.1) HE1.out HWr.out.1 HRY.out).mono ?_
      rintro e w2 ⟨rfl, hw2⟩
      have HW2 := Lib.hid (HWr.out.trans hw2)
      clear hw2 ca cf cs
      go_wp2_with fail
      go_roundw
      case rel => exact ⟨j + 1 + i.length, p ++ y :: i, r, by congr 1; omega, Lib.hid (by rw [HI2.out]; simp), by simp; omega, by omega, Lib.hid (HFp.out.append (forest_one HY1.out HY2.out HFi.out)), HFr, by
        have h := HW2.out
        rw [List.append_assoc, ← canP_append [] HFp.out] at h
        exact h⟩
      case measure => simp [intOf]; omega
end Go.Proofs.YtechccoongilcaaDoor
/- The program's package read: the row of nodes and the row of open blocks, in memory. -/
namespace Go.Proofs.YtechccoongilcaaDoor
open Go.RowKit
set_option linter.unusedVariables false
set_option linter.unusedSimpArgs false
/-- below base, block g alone may have changed. -/
structure Keep (g base : Nat) (w w' : World) : Prop where
  os : w'.os = w.os
  tape : w'.tape = w.tape
  output : w'.output = w.output
  size : w.heap.size ≤ w'.heap.size
  block : ∀ k, k < base → k ≠ g → w'.heap[k]? = w.heap[k]?
theorem Keep.refl (g base : Nat) (w : World) : Keep g base w w := ⟨rfl, rfl, rfl, Nat.le_refl _, fun _ _ _ => rfl⟩
theorem Keep.trans {g base : Nat} {a b c : World} (h : Keep g base a b) (k : Keep g base b c) : Keep g base a c :=
  ⟨k.os.trans h.os, k.tape.trans h.tape, k.output.trans h.output, Nat.le_trans h.size k.size, fun i hi hg => (k.block i hi hg).trans (h.block i hi hg)⟩
theorem Keep.of_bar {g base : Nat} {w w' : World} (h : Bar g w w') (hb : base ≤ w.heap.size) : Keep g base w w' := ⟨h.os, h.tape, h.output, h.size, fun k hk hg => h.block k (by omega) hg⟩
theorem Keep.of_below {g base B : Nat} {w w' : World} (h : Below B w w') (hb : base ≤ B) : Keep g base w w' := ⟨h.os, h.tape, h.output, h.size, fun k hk _ => h.block k (by omega)⟩
theorem Keep.set {g base : Nat} {w w' : World} (h : Keep g base w w') (j : Nat) (v : Value) : Keep g base w (w'.setCell ⟨g, j, none⟩ v) :=
  ⟨h.os, h.tape, h.output, by simpa using h.size, fun k hk hg => (Below.heap_setCell _ _ _ _ (fun e => hg (by simpa using e))).trans (h.block k hk hg)⟩
theorem Bar.keep {g : Nat} {w1 w w' : World} (h : Bar g w1 w) (k : Keep g w1.heap.size w w') : Bar g w1 w' :=
  ⟨k.os.trans h.os, k.tape.trans h.tape, k.output.trans h.output, Nat.le_trans h.size k.size, fun i hi hg => (k.block i hi hg).trans (h.block i hi hg)⟩
/-- the slice's own block is none of the other's. -/
def Other (A : Option Addr) (n c : Nat) (Ao : Option Addr) (mo co : Nat) : Prop := ∀ k, (Value.slice A n c).ownBlock = some k → (Value.slice Ao mo co).ownBlock ≠ some k
theorem Other.none (Ao : Option Addr) (mo co : Nat) : Other none 0 0 Ao mo co := fun k h => by cases h
/-- the row of nodes, and the row of the open blocks' places. -/
structure Two (w : World) (base : Nat) (A : Option Addr) (n c : Nat) (Ao : Option Addr) (mo co : Nat) (l : List Nd) (os : List Int) : Prop where
  row : ∃ zs : List NdM, w.ownsRow base 50 20 (.slice A n c) n (zs.flatMap encM) ∧ Holds2 base w zs l ∧ ∀ m ∈ zs, Other m.A m.n m.c Ao mo co
  opn : w.ownsRow base 3 1 (.slice Ao mo co) mo (os.map (Value.int .i64))
theorem Holds2.bar {g base : Nat} {w w' : World} {zs : List NdM} {l : List Nd} (h : Holds2 base w zs l) (hb : Bar g w w') (hg : g < base) : Holds2 base w' zs l :=
  ⟨h.1, fun i m x h1 h2 => ⟨(h.2 i m x h1 h2).1, owns_bar (h.2 i m x h1 h2).2 hb hg⟩⟩
theorem Two.bar {g base : Nat} {w w' : World} {A Ao : Option Addr} {n c mo co : Nat} {l : List Nd} {os : List Int} (h : Two w base A n c Ao mo co l os) (hb : Bar g w w') (hg : g < base) : Two w' base A n c Ao mo co l os := by
  obtain ⟨zs, h1, h2, h3⟩ := h.row
  exact ⟨⟨zs, owns_bar h1 hb hg, h2.bar hb hg, h3⟩, owns_bar h.opn hb hg⟩
theorem Two.below {base : Nat} {w w' : World} {A Ao : Option Addr} {n c mo co : Nat} {l : List Nd} {os : List Int} (h : Two w base A n c Ao mo co l os) (hb : Below w.heap.size w w') : Two w' base A n c Ao mo co l os := by
  obtain ⟨zs, h1, h2, h3⟩ := h.row
  exact ⟨⟨zs, owns_below h1 hb, h2.below hb, h3⟩, owns_below h.opn hb⟩
theorem Two.len {base : Nat} {w : World} {A Ao : Option Addr} {n c mo co : Nat} {l : List Nd} {os : List Int} (h : Two w base A n c Ao mo co l os) : l.length = n ∧ os.length = mo := by
  obtain ⟨zs, h1, h2, _⟩ := h.row
  have e1 := h1.1
  rw [flat_len encM_len] at e1
  have e2 := h.opn.1
  rw [List.length_map] at e2
  exact ⟨by rw [← h2.1]; omega, by omega⟩
theorem Two.nil (w : World) (base : Nat) : Two w base none 0 0 none 0 0 [] [] := ⟨⟨[], World.ownsRow_nil _ _ _ _, Holds2.nil _ _, fun m hm => by cases hm⟩, World.ownsRow_nil _ _ _ _⟩
/-- a node is put at the row's end. -/
theorem Two.push {g base : Nat} {w w6 : World} {A Ao : Option Addr} {n c mo co : Nat} {l : List Nd} {os : List Int} {zs : List NdM} (h1 : w.ownsRow base 50 20 (.slice A n c) n (zs.flatMap encM)) (h2 : Holds2 base w zs l) (h3 : ∀ m ∈ zs, Other m.A m.n m.c Ao mo co)
    (h4 : w.ownsRow base 3 1 (.slice Ao mo co) mo (os.map (Value.int .i64))) (hg : g < base) {m : NdM} {x : Nd} (hm : Holds base w m x) (ho : Other m.A m.n m.c Ao mo co) {A6 : Option Addr} {c6 : Nat}
    (o1 : w6.ownsRow base 50 20 (.slice A6 (n + 1) c6) (n + 1) (zs.flatMap encM ++ encM m)) (hg6 : w.grownBy w6 (Value.slice A n c).ownBlock) (v : Value) :
    Two (w6.setCell ⟨g, 3, none⟩ v) base A6 (n + 1) c6 Ao mo co (l ++ [x]) os := by
  have hm6 : Holds base w6 m x := ⟨hm.1, owns_grown hm.2 h1 (by decide) hg6⟩
  have h26 := h2.grown h1 (by decide) hg6
  refine ⟨⟨zs ++ [m], ?_, ?_, ?_⟩, owns_set (owns_grown h4 h1 (by decide) hg6) hg 3 v⟩
  · rw [List.flatMap_append]
    have : ([m].flatMap encM) = encM m := by simp
    rw [this]
    exact owns_set o1 hg 3 v
  · exact (h26.append (Holds2.one hm6)).same (Same.set w6 hg 3 v)
  · intro m' hm'
    rcases List.mem_append.1 hm' with h' | h'
    · exact h3 m' h'
    · rw [List.mem_singleton.1 h']; exact ho
theorem owns_kept {w w6 : World} {base : Nat} {e : TypeId} {size : Nat} {v : Value} {n : Nat} {xs : List Value} {row : Option Nat} (h : w.ownsRow base e size v n xs) (hg : w.grownBy w6 row) (hr : ∀ k, v.ownBlock = some k → row ≠ some k) : w6.ownsRow base e size v n xs := by
  refine ⟨h.1, ?_⟩
  rcases h.2 with h2 | ⟨g, cap, cur, h1, h2, h3, h4⟩
  · exact .inl h2
  · exact .inr ⟨g, cap, cur, h1, h2, (hg.block g (Array.getElem?_eq_some_iff.1 h3).1 (fun e => hr g (by rw [h1]; rfl) e.symm)).trans h3, h4⟩
/-- a place is put behind those of the open blocks. -/
theorem Two.open_ {g base : Nat} {w w6 : World} {A Ao : Option Addr} {n c mo co : Nat} {l : List Nd} {os : List Int} {zs : List NdM} (h1 : w.ownsRow base 50 20 (.slice A n c) n (zs.flatMap encM)) (h2 : Holds2 base w zs l) (h3 : ∀ m ∈ zs, Other m.A m.n m.c Ao mo co)
    (h4 : w.ownsRow base 3 1 (.slice Ao mo co) mo (os.map (Value.int .i64))) (hg : g < base) (q : Int) {A6 : Option Addr} {c6 : Nat}
    (o1 : w6.ownsRow base 3 1 (.slice A6 (mo + 1) c6) (mo + 1) (os.map (Value.int .i64) ++ [Value.int .i64 q])) (hg6 : w.grownBy w6 (Value.slice Ao mo co).ownBlock)
    (hp : ∀ k, (Value.slice A6 (mo + 1) c6).ownBlock = some k → (Value.slice Ao mo co).ownBlock = some k ∨ k = w.heap.size) (v : Value) :
    Two (w6.setCell ⟨g, 4, none⟩ v) base A n c A6 (mo + 1) c6 l (os ++ [q]) := by
  refine ⟨⟨zs, owns_set (owns_grown h1 h4 (by decide) hg6) hg 4 v, ?_, ?_⟩, ?_⟩
  · refine Holds2.same ⟨h2.1, fun i m x hi hx => ⟨(h2.2 i m x hi hx).1, owns_kept (h2.2 i m x hi hx).2 hg6 (fun k hk => h3 m (List.mem_of_getElem? hi) k hk)⟩⟩ (Same.set w6 hg 4 v)
  · intro m hm k hk hk6
    obtain ⟨i, hi⟩ := List.mem_iff_getElem?.1 hm
    have hil := (List.getElem?_eq_some_iff.1 hi).1
    have hx : l[i]? = some (l[i]'(by rw [← h2.1]; exact hil)) := List.getElem?_eq_getElem _
    rcases hp k hk6 with e | e
    · exact h3 m hm k hk e
    · have := owns_block_lt (h2.2 i m _ hi hx).2 k hk
      omega
  · rw [List.map_append]
    exact owns_set o1 hg 4 v
end Go.Proofs.YtechccoongilcaaDoor
/- The program's text: a document's canonical text. -/
namespace Go.Proofs.YtechccoongilcaaDoor
open Go.RowKit
set_option linter.unusedVariables false
set_option linter.unusedSimpArgs false
theorem wr_direct {W : World} {B b : Nat} (hB : B ≤ b) (h : Blk W b 57 [.pointer none, .slice none 0 0]) : Wr B b [] W :=
  .inl ⟨hB, .slice none 0 0, h, World.ownsRowF_nil _ _ _ _, by simp [Value.ownBlock]⟩
theorem fine_lf : fineL [Pc.b 10] := fine_cons (show (Pc.b 10).fine from .inr rfl) fine_nil
set_option maxHeartbeats 4000000 in
set_option maxRecDepth 100000 in
theorem text_any (x : List Nd) (A : Option Addr) (n c : Nat) (w : World) (hd : IsDoc x) (hS : Sees w A n x) (hT : TabP w.heap.size w) (hn : n ≤ 100000) (hw : ∀ y ∈ x, y.words.length ≤ 100000) :
    Calls Tryd.prog 11 #[.slice A n c] w fun e w' => e = .returned (.string (canS x)) ∧ Below w.heap.size w w' := by
  have hla := hS.len
  have hwt : wts x ≤ 100000 * 200027 := Nat.le_trans (wts_le hw) (Nat.mul_le_mul (by omega) (by decide))
  have HR := Lib.hid (show Room [] (13 * wts x + n) by unfold Room; simp; omega)
  have HD := Lib.hid hd
  have HS := Lib.hid hS
  have HT := Lib.hid hT
  clear hd hS hT hw hwt
  have hst : ∀ (a : Addr) (fn : Fn) (f c : Array Value) (m : Mode) (w : World), (store a (.func fn f c) m).run Tryd.prog w = stored Tryd.prog w a (.func fn f c) m := fun a fn f c m w => run_store _ w a _ m rfl
  go_enter Tryd.func11, Tryd.ntmps11
  go_wp2_with fail
  clear hst
  generalize hV : ((w.alloc (.cells #[.slice A n c] 27)).alloc (.cells #[.pointer none, .slice none 0 0] 57)).alloc (.cells #[(.func (.func 20) #[] #[.pointer (some ⟨w.heap.size + 1, 0, none⟩), .pointer (some ⟨w.heap.size, 0, none⟩), .pointer (some ⟨w.heap.size + 1 + 1, 0, none⟩)])] 58) = V
  have hVs : V.heap.size = w.heap.size + 3 := by rw [← hV]; simp
  have HO := Lib.hid (show On w V by rw [← hV]; exact ((((Below.refl _ _).alloc (Nat.le_refl _) _).alloc (by simp) _).alloc (by simp; omega) _))
  have HE := Lib.hid (show Env (w.heap.size + 1) w.heap.size (w.heap.size + 1 + 1) A n c V by
    rw [← hV]
    refine ⟨?_, ?_, by omega, by omega⟩
    · exact ((Blk.new w 27 [.slice A n c] _ rfl _ rfl).alloc _).alloc _
    · exact Blk.new _ 58 [(.func (.func 20) #[] #[.pointer (some ⟨w.heap.size + 1, 0, none⟩), .pointer (some ⟨w.heap.size, 0, none⟩), .pointer (some ⟨w.heap.size + 1 + 1, 0, none⟩)])] _ (by simp) _ rfl)
  have HP := Lib.hid (show Pen w.heap.size (w.heap.size + 1) [] V from ⟨wr_direct (by omega) (by
    rw [← hV]
    exact (Blk.new _ 57 [.pointer none, .slice none 0 0] _ (by simp) _ rfl).alloc _), HT.out.on HO.out, by omega⟩)
  clear hV
  go_loopw [5] (fun at' wr => ∃ (j : Nat) (p q : List Nd), at' = .int .i64 (j : Int) ∧ Hid (x = p ++ q) ∧ p.length = j ∧ j ≤ n ∧ Hid (Forest p) ∧ Hid (Forest q) ∧ Wrote w.heap.size (w.heap.size + 1) [] (canP [.b 10] p) V wr) (fun at' _ => n - (intOf at').toNat)
  case atStart => exact ⟨0, [], x, rfl, Lib.hid rfl, rfl, Nat.zero_le _, Lib.hid .nil, Lib.hid HD.out.2, by rw [canP_nil]; exact Wrote.nil HP.out⟩
  case round =>
    obtain ⟨j, p, q, rfl, HI, hpj, hjn, HFp, HFq, hw⟩ := hrel
    have HW := Lib.hid hw
    have hE1 := HE.out.kept hw.2
    have HE1 := Lib.hid hE1
    have ca := hE1.1.box.2.2 0 _ rfl
    have cf := hE1.2.1.box.2.2 0 _ rfl
    have hql : p.length + q.length = n := by rw [← hla, HI.out, List.length_append]
    clear hw hE1
    by_cases hq : q = []
    · have hjz : (n : Int) ≤ (j : Int) := by subst hq; simp at hql; omega
      have HPI := Lib.hid (show p = x by rw [HI.out, hq, List.append_nil])
      clear hq
      go_wp2_with fail
      refine (wr_text _ _ _ _ HW.out.1.1 HW.out.1.2.2).mono ?_
      rintro e w2 ⟨rfl, hk⟩
      have HB := Lib.hid (show Below w.heap.size w w2 from HO.out.trans (HW.out.2.1.trans hk.1))
      have HV := Lib.hid (show (⟨([] ++ uL (canP [.b 10] p)).toArray⟩ : ByteArray) = canS x by rw [HPI.out, List.nil_append]; rfl)
      clear hk ca cf
      rw [HV.out]
      go_wp2_with fail
      go_ret
      exact ⟨rfl, HB.out⟩
    · obtain ⟨y, i, r, hqe, hy1, hy2, hfi, hfr⟩ := forest_front HFq.out hq
      have hil : p.length + (1 + (i.length + r.length)) = n := by rw [← hql, hqe]; simp; omega
      have hjz : (j : Int) < (n : Int) := by omega
      have HI2 := Lib.hid (show x = p ++ y :: (i ++ r) by rw [HI.out, hqe])
      have HY1 := Lib.hid hy1
      have HY2 := Lib.hid hy2
      have HFi := Lib.hid hfi
      have HFr := Lib.hid hfr
      have hyf : ∀ u ∈ y :: i, u.fits := fun u hu => HD.out.1 u (by rw [HI2.out]; exact List.mem_append_right _ (by rw [← List.cons_append]; exact List.mem_append_left _ hu))
      have HYF := Lib.hid hyf
      have HPF := Lib.hid (show ∀ u ∈ p, u.fits from fun u hu => HD.out.1 u (by rw [HI2.out]; exact List.mem_append_left _ hu))
      have HLF := Lib.hid (show Room ([] ++ uL (canP [.b 10] p)) (13 * wts (y :: i) + 1) from HR.out.pcs (fine_can HFp.out HPF.out _ fine_lf) (by
        have h1 := can_len HFp.out [.b 10] (by simp)
        have h4 : wts x = wts p + (wts (y :: i) + wts r) := by rw [HI2.out, wts_append, ← List.cons_append, wts_append]
        omega))
      have HCB := Lib.hid (node_can [.b 10] hy1 hy2 (hyf y (by simp)))
      have HCN := Lib.hid (node_can [] hy1 hy2 (hyf y (by simp)))
      clear hq hqe hy1 hy2 hfi hfr hyf
      go_wp2_with fail
      refine (node_all w A n c (w.heap.size + 1) w.heap.size (w.heap.size + 1 + 1) x HS.out hn i.length y i p r j _ wr (Nat.le_refl _) hpj HI2.out HY1.out HY2.out HFi.out HYF.out (HO.out.trans HW.out.2.1) HE1.out HW.out.1 (HLF.out.less (by omega))).mono ?_
      rintro e w2 ⟨rfl, hw2⟩
      have HW2 := Lib.hid (HW.out.trans hw2)
      have HR2 := Lib.hid (show Room (([] ++ uL (canP [.b 10] p)) ++ uL (canP [] (y :: i))) 1 from HLF.out.pcs (fine_can (forest_one HY1.out HY2.out HFi.out) HYF.out [] fine_nil) (by
        have h1 := can_len (forest_one HY1.out HY2.out HFi.out) [] (by simp)
        omega))
      clear hw2 ca cf
      go_wp2_with fail
      refine (pen_byte 10 (.b 10) rfl (by decide) HW2.out.1 (by have := HR2.out; unfold Room at *; rw [uL_append, ← List.append_assoc]; exact this)).mono ?_
      rintro e w3 ⟨rfl, hw3⟩
      have HW3 := Lib.hid (show Wrote w.heap.size (w.heap.size + 1) [] (canP [.b 10] (p ++ y :: i)) V w3 by
        have h := HW2.out.trans hw3
        rw [canP_append _ HFp.out, HCB.out]
        rw [HCN.out, List.append_nil] at h
        simpa only [List.append_assoc] using h)
      clear hw3
      go_wp2_with fail
      go_roundw
      case rel => exact ⟨j + 1 + i.length, p ++ y :: i, r, by congr 1 <;> omega, Lib.hid (by rw [HI2.out]; simp), by simp; omega, by omega, Lib.hid (HFp.out.append (forest_one HY1.out HY2.out HFi.out)), HFr, HW3.out⟩
      case measure => simp [intOf]; omega
end Go.Proofs.YtechccoongilcaaDoor
/- The program's package read: the innermost open block is left. -/
namespace Go.Proofs.YtechccoongilcaaDoor
open Go.RowKit
set_option linter.unusedVariables false
set_option linter.unusedSimpArgs false
theorem owns_shrink {w : World} {base : Nat} {e : TypeId} {A : Option Addr} {n c : Nat} {xs : List Value} {x : Value} (h : w.ownsRow base e 1 (.slice A (n + 1) c) (n + 1) (xs ++ [x])) : ∃ b, A = some ⟨b, 0, none⟩ ∧ n + 1 ≤ c ∧ base ≤ b ∧ w.cell? ⟨b, n, none⟩ = some x ∧ w.ownsRow base e 1 (.slice A n c) n xs := by
  have hl := h.1
  rw [List.length_append, List.length_singleton] at hl
  rcases h.2 with ⟨_, h0⟩ | ⟨g, cap, cur, hv, hb, hg, hnc, hcm, hcs, htake⟩
  · omega
  · injection hv with hA _ hc
    subst hA hc
    refine ⟨g, rfl, hnc, hb, ?_, by omega, .inr ⟨g, c, cur, rfl, hb, hg, by omega, hcm, hcs, ?_⟩⟩
    · have := h.cells (g := g) rfl n x (by rw [List.getElem?_append_right (by omega)]; simp [show n - xs.length = 0 by omega])
      rwa [Go.WideShapes.add_plain, Nat.zero_add] at this
    · have e1 : cur.toList.take (n * 1) = (cur.toList.take ((n + 1) * 1)).take (n * 1) := by rw [List.take_take]; congr 1; omega
      rw [e1, htake, List.take_left' (by omega)]
theorem owns_put {w : World} {base : Nat} {e : TypeId} {size : Nat} {b n c : Nat} {xs : List Value} (h : w.ownsRow base e size (.slice (some ⟨b, 0, none⟩) n c) n xs) {j : Nat} (hj : j < xs.length) (v : Value) : (w.setCell ⟨b, j, none⟩ v).ownsRow base e size (.slice (some ⟨b, 0, none⟩) n c) n (xs.set j v) := by
  refine ⟨by rw [List.length_set]; exact h.1, ?_⟩
  rcases h.2 with ⟨hv, _⟩ | ⟨g, cap, cur, hv, hb, hg, hnc, hcm, hcs, htake⟩
  · cases hv
  · injection hv with hA _ hc
    injection hA with hA
    injection hA with hA
    subst hA hc
    obtain ⟨hlt, hk⟩ := Array.getElem?_eq_some_iff.1 hg
    refine .inr ⟨b, c, cur.setIfInBounds j v, rfl, hb, ?_, hnc, hcm, by simpa using hcs, ?_⟩
    · show (w.heap.modify b _)[b]? = _
      rw [Array.getElem?_eq_getElem (by rw [Array.size_modify]; exact hlt), Array.getElem_modify_self, hk]
      simp
    · rw [Array.toList_setIfInBounds, List.take_set, htake]
theorem encM_size (zs : List NdM) (k : Nat) (m : NdM) (hm : zs[k]? = some m) (v : Int) : (zs.flatMap encM).set (k * 20 + 1) (.int .i64 v) = (zs.set k { m with size := v }).flatMap encM := by
  induction zs generalizing k with
  | nil => simp at hm
  | cons z zs ih =>
    cases k with
    | zero => simp at hm; subst hm; rfl
    | succ k =>
      rw [List.set_cons_succ, List.flatMap_cons, List.flatMap_cons, List.set_append_right _ _ (by rw [encM_len]; omega), encM_len, show (k + 1) * 20 + 1 - 20 = k * 20 + 1 by omega, ih k (by simpa using hm)]
theorem owns_apart {w : World} {base base' b : Nat} {e e' : TypeId} {size size' n n' c : Nat} {v : Value} {xs xs' : List Value} (h : w.ownsRow base e size v n xs) (h' : w.ownsRow base' e' size' (.slice (some ⟨b, 0, none⟩) n' c) n' xs') (hne : e ≠ e') : ∀ k, v.ownBlock = some k → k ≠ b := by
  intro k hk hkb
  subst hkb
  rcases h.2 with ⟨q, _⟩ | ⟨g, cap, cur, q, _, q3, _⟩
  · rw [q] at hk; cases hk
  · rw [q] at hk
    injection hk with hk
    rcases h'.2 with ⟨r, _⟩ | ⟨g', cap', cur', r, _, r3, _⟩
    · cases r
    · injection r with r
      injection r with r
      injection r with r
      rw [← r, ← show g = k from hk, q3] at r3
      injection r3 with r3
      injection r3 with _ r3
      exact hne r3
theorem owns_set_off {w : World} {base : Nat} {e : TypeId} {size : Nat} {v : Value} {n : Nat} {xs : List Value} (h : w.ownsRow base e size v n xs) {m : Nat} (hm : ∀ k, v.ownBlock = some k → k ≠ m) (j : Nat) (u : Value) : (w.setCell ⟨m, j, none⟩ u).ownsRow base e size v n xs := by
  refine ⟨h.1, ?_⟩
  rcases h.2 with h2 | ⟨g, cap, cur, h1, h2, h3, h4⟩
  · exact .inl h2
  · exact .inr ⟨g, cap, cur, h1, h2, (Below.heap_setCell _ _ _ _ (fun e => hm g (by rw [h1]; rfl) (by simpa using e))).trans h3, h4⟩
theorem Two.resize {w : World} {base g b n c gO mo co K : Nat} {l1 l2 : List Nd} {x : Nd} {os : List Int} {zs : List NdM} {mk : NdM} (T1 : w.ownsRow base 50 20 (.slice (some ⟨b, 0, none⟩) n c) n (zs.flatMap encM)) (T2 : Holds2 base w zs (l1 ++ x :: l2))
    (T3 : ∀ m ∈ zs, Other m.A m.n m.c (some ⟨gO, 0, none⟩) (mo + 1) co) (T5 : w.ownsRow base 3 1 (.slice (some ⟨gO, 0, none⟩) mo co) mo (os.map (Value.int .i64))) (hK : l1.length = K) (hzk : zs[K]? = some mk) (hg : g < base) (z : Int) (v : Value) :
    Two ((w.setCell ⟨b, K * 20 + 1, none⟩ (.int .i64 z)).setCell ⟨g, 4, none⟩ v) base (some ⟨b, 0, none⟩) n c (some ⟨gO, 0, none⟩) mo co (l1 ++ { x with size := z } :: l2) os := by
  have hkl := (List.getElem?_eq_some_iff.1 hzk).1
  have hxk : (l1 ++ x :: l2)[K]? = some x := by rw [List.getElem?_append_right (by omega), hK, Nat.sub_self]; rfl
  have hset : (l1 ++ { x with size := z } :: l2) = (l1 ++ x :: l2).set K { x with size := z } := by rw [List.set_append_right _ _ (by omega), hK, Nat.sub_self]; rfl
  refine ⟨⟨zs.set K { mk with size := z }, ?_, ?_, ?_⟩, ?_⟩
  · rw [← encM_size zs K mk hzk z]
    exact owns_set (owns_put T1 (by rw [flat_len encM_len]; omega) _) hg 4 v
  · rw [hset]
    refine Holds2.same (w := w.setCell ⟨b, K * 20 + 1, none⟩ (.int .i64 z)) ⟨by rw [List.length_set, List.length_set]; exact T2.1, fun i m y hi hy => ?_⟩ (Same.set _ hg 4 v)
    by_cases hiK : i = K
    · subst hiK
      rw [List.getElem?_set_self hkl] at hi
      rw [List.getElem?_set_self (by rw [← T2.1]; exact hkl)] at hy
      cases hi
      cases hy
      have q := T2.2 i mk x hzk hxk
      exact ⟨⟨q.1.1, rfl, q.1.2.2.1, q.1.2.2.2.1, q.1.2.2.2.2.1, q.1.2.2.2.2.2.1, q.1.2.2.2.2.2.2.1, q.1.2.2.2.2.2.2.2⟩, owns_set_off q.2 (owns_apart q.2 T1 (by decide)) _ _⟩
    · rw [List.getElem?_set_ne (fun e => hiK e.symm)] at hi hy
      have q := T2.2 i m y hi hy
      exact ⟨q.1, owns_set_off q.2 (owns_apart q.2 T1 (by decide)) _ _⟩
  · intro m hm k hk e
    rcases List.mem_or_eq_of_mem_set hm with h | h
    · exact T3 m h k hk e
    · subst h
      exact T3 mk (List.mem_of_getElem? hzk) k hk e
  · exact owns_set (owns_set_off T5 (owns_apart T5 T1 (by decide)) _ _) hg 4 v
set_option maxHeartbeats 4000000 in
set_option maxRecDepth 100000 in
theorem leave_any {toks : List Tok} {size : Int} {g base : Nat} {w : World} {i : Nat} {wr : Bool} {s : Sty} {mp : Value} {A Ao : Option Addr} {n c mo co : Nat} {l1 l2 : List Nd} {x : Nd} {os : List Int} (h : Rd toks size g w i wr (.slice A n c) (.slice Ao (mo + 1) co) s mp) (ht : Two w base A n c Ao (mo + 1) co (l1 ++ x :: l2) (os ++ [(l1.length : Int)])) (hg : g < base) (hB : base ≤ w.heap.size) (hn : n ≤ 1000000) (hmo : mo ≤ 1000000) :
    Calls Tryd.prog 35 #[.pointer (some ⟨g, 0, none⟩)] w fun e w' => (∃ v, e = .returned v) ∧ Rd toks size g w' i wr (.slice A n c) (.slice Ao mo co) s mp ∧ Two w' base A n c Ao mo co (l1 ++ { x with size := (n : Int) - l1.length } :: l2) os ∧ Keep g base w w' := by
  obtain ⟨zs, t1, t2, t3⟩ := ht.row
  have t4 := ht.opn
  rw [List.map_append] at t4
  obtain ⟨gO, rfl, hco, hO1, hO2, t5⟩ := owns_shrink t4
  have hlen := ht.len
  rw [List.length_append, List.length_cons] at hlen
  obtain ⟨K, hK⟩ : ∃ K, l1.length = K := ⟨_, rfl⟩
  rw [hK] at hO2 hlen ⊢
  have hzl := t2.1
  rw [List.length_append, List.length_cons, hK] at hzl
  have hzk : zs[K]? = some (zs[K]'(by omega)) := List.getElem?_eq_getElem _
  generalize zs[K]'(by omega) = mk at hzk
  obtain ⟨b, hb0, hbb⟩ : ∃ b, A = some ⟨b, 0, none⟩ ∧ base ≤ b := by
    rcases t1.2 with ⟨_, h0⟩ | ⟨gg, cap, cur, hv, hb, _⟩
    · omega
    · injection hv with hA _ _
      exact ⟨gg, hA, hb⟩
  subst hb0
  have hbl := owns_block_lt t1 b rfl
  have hrow : w.cell? ⟨b, K * 20 + 1, none⟩ = some (.int .i64 mk.size) := by
    have := (ownsRow_rows encM_len (by decide) t1).2.2 (by omega)
    obtain ⟨b', off, e1, _, hc⟩ := this
    cases e1
    have := hc K mk hzk 1 (.int .i64 mk.size) rfl
    rwa [Nat.zero_add] at this
  have hfz : w.frozen? ⟨b, K * 20 + 1, none⟩ = false := by
    rcases t1.2 with ⟨hv, _⟩ | ⟨gg, cap, cur, hv, _, hh, _⟩
    · cases hv
    · injection hv with hA _ _
      cases hA
      simp [World.frozen?, hh]
  have c3 := h.cells.2.2.1
  have c4 := h.cells.2.2.2
  have f4 := h.frozen 4
  have g0 := h.lt
  have hKn : K < n := by omega
  have HR := Lib.hid h
  have T1 := Lib.hid t1
  have T2 := Lib.hid t2
  have T3 := Lib.hid t3
  have T4 := Lib.hid ht.opn
  have T5 := Lib.hid t5
  clear h ht t1 t2 t3 t4 t5
  go_enter Tryd.func35, Tryd.ntmps35
  go_wp2_with fail
  refine wp_region_held_tail 14 (S := fun W' => W'.cell? ⟨g, 3, none⟩ = some (.slice (some ⟨b, 0, none⟩) n c)) (by kernel_rfl) (by kernel_rfl) rfl c3 (fun h0 => ?_)
  simp only [headOf, List.take_succ_cons, List.take_zero, List.getElem_toArray, List.getElem_cons_succ, List.getElem_cons_zero]
  refine wpAnyH_take (i := 0) (v := ?_) rfl (by kernel_rfl) (by kernel_rfl) (by kernel_rfl) (fun _ _ _ h => h) (Or.inl ⟨by rfl, ?_⟩) h0 ?_
  rotate_left
  · intro w hSw; (try dsimp only at hSw); go_simp; with_reducible rfl
  try simp only [Act.put, List.setIfInBounds_toArray, List.set_cons_zero, List.set_cons_succ]
  refine wpAnyH_take (i := 1) (v := ?_) rfl (by kernel_rfl) (by kernel_rfl) (by kernel_rfl) (fun _ _ _ h => h) (Or.inl ⟨by rfl, ?_⟩) h0 ?_
  rotate_left
  · intro w hSw; (try dsimp only at hSw); go_simp; with_reducible rfl
  try simp only [Act.put, List.setIfInBounds_toArray, List.set_cons_zero, List.set_cons_succ]
  refine wpAnyH_take (i := 2) (v := ?_) rfl (by kernel_rfl) (by kernel_rfl) (by kernel_rfl) (fun _ _ _ h => h) (Or.inl ⟨by rfl, ?_⟩) h0 ?_
  rotate_left
  · intro w hSw; (try dsimp only at hSw); go_simp; with_reducible rfl
  try simp only [Act.put, List.setIfInBounds_toArray, List.set_cons_zero, List.set_cons_succ]
  refine wpAnyH_take (i := 3) (v := ?_) rfl (by kernel_rfl) (by kernel_rfl) (by kernel_rfl) (fun _ _ _ h => h) (Or.inl ⟨by rfl, ?_⟩) h0 ?_
  rotate_left
  · intro w hSw; (try dsimp only at hSw); go_simp; with_reducible rfl
  try simp only [Act.put, List.setIfInBounds_toArray, List.set_cons_zero, List.set_cons_succ]
  refine wpAnyH_take (i := 4) (v := ?_) rfl (by kernel_rfl) (by kernel_rfl) (by kernel_rfl) (fun _ _ _ h => h) (Or.inl ⟨by rfl, ?_⟩) h0 ?_
  rotate_left
  · intro w hSw; (try dsimp only at hSw); go_simp; with_reducible rfl
  try simp only [Act.put, List.setIfInBounds_toArray, List.set_cons_zero, List.set_cons_succ]
  refine wpAnyH_take (i := 5) (v := ?_) rfl (by kernel_rfl) (by kernel_rfl) (by kernel_rfl) (fun _ _ _ h => h) (Or.inl ⟨by rfl, ?_⟩) h0 ?_
  rotate_left
  · intro w hSw; (try dsimp only at hSw); go_simp; with_reducible rfl
  try simp only [Act.put, List.setIfInBounds_toArray, List.set_cons_zero, List.set_cons_succ]
  refine wpAnyH_take (i := 6) (v := ?_) rfl (by kernel_rfl) (by kernel_rfl) (by kernel_rfl) (fun _ _ _ h => h) (Or.inl ⟨by rfl, ?_⟩) h0 ?_
  rotate_left
  · intro w hSw; (try dsimp only at hSw); go_simp; with_reducible rfl
  try simp only [Act.put, List.setIfInBounds_toArray, List.set_cons_zero, List.set_cons_succ]
  refine wpAnyH_take (i := 7) (v := ?_) rfl (by kernel_rfl) (by kernel_rfl) (by kernel_rfl) (fun _ _ _ h => h) (Or.inl ⟨by rfl, ?_⟩) h0 ?_
  rotate_left
  · intro w hSw; (try dsimp only at hSw); go_simp; with_reducible rfl
  try simp only [Act.put, List.setIfInBounds_toArray, List.set_cons_zero, List.set_cons_succ]
  refine wpAnyH_take (i := 8) (v := ?_) rfl (by kernel_rfl) (by kernel_rfl) (by kernel_rfl) (fun _ _ _ h => h) (Or.inl ⟨by rfl, ?_⟩) h0 ?_
  rotate_left
  · intro w hSw; (try dsimp only at hSw); go_simp; with_reducible rfl
  try simp only [Act.put, List.setIfInBounds_toArray, List.set_cons_zero, List.set_cons_succ]
  refine wpAnyH_take (i := 9) (v := ?_) rfl (by kernel_rfl) (by kernel_rfl) (by kernel_rfl) (fun _ _ _ h => h) (Or.inl ⟨by rfl, ?_⟩) h0 ?_
  rotate_left
  · intro w hSw; (try dsimp only at hSw); go_simp; with_reducible rfl
  try simp only [Act.put, List.setIfInBounds_toArray, List.set_cons_zero, List.set_cons_succ]
  refine wpAnyH_take (i := 10) (v := ?_) rfl (by kernel_rfl) (by kernel_rfl) (by kernel_rfl) (fun _ _ _ h => h) (Or.inl ⟨by rfl, ?_⟩) h0 ?_
  rotate_left
  · intro w hSw; (try dsimp only at hSw); go_simp; with_reducible rfl
  try simp only [Act.put, List.setIfInBounds_toArray, List.set_cons_zero, List.set_cons_succ]
  refine wpAnyH_take (i := 11) (v := ?_) rfl (by kernel_rfl) (by kernel_rfl) (by kernel_rfl) (fun _ _ _ h => h) (Or.inl ⟨by rfl, ?_⟩) h0 ?_
  rotate_left
  · intro w hSw; (try dsimp only at hSw); go_simp; with_reducible rfl
  try simp only [Act.put, List.setIfInBounds_toArray, List.set_cons_zero, List.set_cons_succ]
  refine wpAnyH_take (i := 12) (v := ?_) rfl (by kernel_rfl) (by kernel_rfl) (by kernel_rfl) (fun _ _ _ h => h) (Or.inl ⟨by rfl, ?_⟩) h0 ?_
  rotate_left
  · intro w hSw; (try dsimp only at hSw); go_simp; with_reducible rfl
  try simp only [Act.put, List.setIfInBounds_toArray, List.set_cons_zero, List.set_cons_succ]
  refine wpAnyH_take (i := 13) (v := ?_) rfl (by kernel_rfl) (by kernel_rfl) (by kernel_rfl) (fun _ _ _ h => h) (Or.inl ⟨by rfl, ?_⟩) h0 ?_
  rotate_left
  · intro w hSw; (try dsimp only at hSw); go_simp; with_reducible rfl
  try simp only [Act.put, List.setIfInBounds_toArray, List.set_cons_zero, List.set_cons_succ]
  refine wpAnyH_done (by kernel_rfl) ?_ _
  show wpList _ _ _ _ _ _
  go_wp2_with fail
  go_end0
  have hb1 : Below base w (w.setCell ⟨b, K * 20 + 1, none⟩ (.int .i64 ((n : Int) - K))) := Below.setCell (Below.refl _ _) (by simp only; omega) _
  exact ⟨⟨_, rfl⟩, ((HR.out.low (hb1.mono (by omega))).set (opn' := .slice (some ⟨gO, 0, none⟩) mo co) 4 _ (fun _ => rfl)).bar (Bar.refl g _).drew rfl, (Two.resize T1.out T2.out T3.out T5.out hK hzk hg _ _).bar (Bar.refl g _).drew hg, ((Keep.of_below hb1 (Nat.le_refl _)).set 4 _).trans (Keep.of_bar (Bar.refl g _).drew (by simp; omega))⟩
end Go.Proofs.YtechccoongilcaaDoor
