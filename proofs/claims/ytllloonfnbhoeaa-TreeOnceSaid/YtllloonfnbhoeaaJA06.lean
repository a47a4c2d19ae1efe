import Derived.Test.YtllloonfnbhoeaaJA03
import Derived.Deep.QuietTactic
import Derived.BigQuiet
import Derived.Test.YtllloonfnbhoeaaJA02
import Derived.Test.YtllloonfnbhoeaaJA01
import Derived.Lib.MinMax
/- The document's answers for package read: the letter of an attribute. -/
namespace Go.Proofs.Ytllloonfnbhoeaa
open Go.RowKit
set_option linter.unusedVariables false
set_option linter.unusedSimpArgs false
def lettersZ : ByteArray := ⟨#[109, 110, 112, 113, 105, 111, 119, 104, 66, 65, 73, 99]⟩
def bytesI (t : ByteArray) : List Int := (List.range t.size).map (bAt t)
theorem mem_bytesI {t : ByteArray} {c : Int} : c ∈ bytesI t ↔ ∃ j, j < t.size ∧ bAt t j = c := by unfold bytesI; simp
theorem letters_at : ∀ k, k < 12 → bAt lettersZ k ∈ lettersB := by decide +kernel
theorem letters_all : ∀ c ∈ lettersB, ∃ k, k < 12 ∧ bAt lettersZ k = c := by decide +kernel
theorem letterB_found {l : List Tok} {i : Nat} {told : List Int} {c : Int} (hc : c ∈ lettersB) (h : sgB l i c = true) : letterB l i told = if c ∈ told then 0 else c := by
  have hf : lettersB.find? (sgB l i) = some c := by
    rcases hq : lettersB.find? (sgB l i) with _ | d
    · have := List.find?_eq_none.1 hq c hc
      exact absurd h this
    · have := List.find?_some hq
      by_cases e : d = c
      · rw [e]
      · exact (sg_clash this h e).elim
  unfold letterB
  rw [hf]
theorem letterB_none {l : List Tok} {i : Nat} {told : List Int} (h : ∀ c ∈ lettersB, sgB l i c = false) : letterB l i told = 0 := by
  have hf : lettersB.find? (sgB l i) = none := List.find?_eq_none.2 (fun c hc => by rw [h c hc]; simp)
  unfold letterB
  rw [hf]
theorem rletters_to {z : ByteArray} (hz : lettersZ = z) (w : World) : Calls Try.prog 85 #[] w fun e w' => e = .returned (.string z) ∧ w = w' := by
  subst hz; exact rletters_any w
theorem rsign_to {toks : List Tok} {A : Option Addr} {n c' : Nat} {i : Nat} {c : Int} {v : Bool} (hv : sgB toks i c = v) (w : World) (hR : Rows 4 encT w A n toks) (hi : i ≤ 10000000) : Calls Try.prog 60 #[.slice A n c', .int .i64 i, .int .i32 c] w fun e w' => e = .returned (.bool v) ∧ w = w' := by
  subst hv; exact rsign_any toks A n c' i c w hR hi
theorem rletter_any (toks : List Tok) (A : Option Addr) (n c' : Nat) (i : Nat) (told : ByteArray) (w : World) (hR : Rows 4 encT w A n toks) (hi : i ≤ 1000000) (ht : told.size ≤ 2000000) :
    Calls Try.prog 79 #[.slice A n c', .int .i64 i, .string told] w fun e w' => e = .returned (.int .u8 (letterB toks i (bytesI told))) ∧ Below w.heap.size w w' := by
  have HR := Lib.hid hR
  clear hR
  obtain ⟨z, hz⟩ : ∃ z, lettersZ = z := ⟨_, rfl⟩
  have hzs : z.size = 12 := by rw [← hz]; rfl
  have HZ := Lib.hid hz
  have HL := Lib.hid (show ∀ k, k < 12 → bAt z k ∈ lettersB from hz ▸ letters_at)
  have HA := Lib.hid (show ∀ c ∈ lettersB, ∃ k, k < 12 ∧ bAt z k = c from hz ▸ letters_all)
  clear hz
  go_enter Try.func79, Try.ntmps79
  go_wp2_with (go_at_call 85; refine (rletters_to HZ.out _).mono ?_; rintro e w' ⟨rfl, rfl⟩)
  go_loopw [8, 9] (fun v u wr => ∃ k : Nat, k ≤ 12 ∧ v = .int .i64 k ∧ (∀ j, j < k → sgB toks i (bAt z j) = false) ∧ wr = w) (fun v _ _ => 12 - (intOf v).toNat)
  case atStart => exact ⟨0, by omega, rfl, fun j hj => by omega, rfl⟩
  case round =>
    obtain ⟨k, hk, rfl, hno, rfl⟩ := hrel
    have HN := Lib.hid hno
    clear hno
    by_cases hlt : k < 12
    · have hkz : k < z.size := by omega
      have hk2 : (k : Int) < (z.size : Int) := by omega
      have hb0 := bAt_get z k hkz
      have hbd := bAt_bd z k
      obtain ⟨c, hc⟩ : ∃ c, bAt z k = c := ⟨_, rfl⟩
      rw [hc] at hb0 hbd
      have HC := Lib.hid hc
      have o1 : IntKind.i32.wrap c = c := by rw [IntKind.wrap_i32]; omega
      clear hc
      rcases hs : sgB toks i c with _ | _
      · have HS := Lib.hid hs
        clear hs
        go_wp2_with (go_at_call 60; refine (rsign_to HS.out _ HR.out (by omega)).mono ?_; rintro e w' ⟨rfl, rfl⟩)
        go_roundw
        case rel => exact ⟨k + 1, by omega, by go_num, fun j hj => by
          by_cases e : j = k
          · subst e; rw [HC.out]; exact HS.out
          · exact HN.out j (by omega), by first | rfl | trivial⟩
        case measure => simp [intOf]; omega
      · have HS := Lib.hid hs
        have hcl : c ∈ lettersB := by rw [← HC.out]; exact HL.out k hlt
        have hv := letterB_found (told := bytesI told) hcl hs
        have HV := Lib.hid hv
        clear hs hv
        go_wp2_with (go_at_call 60; refine (rsign_to HS.out _ HR.out (by omega)).mono ?_; rintro e w' ⟨rfl, rfl⟩)
        obtain ⟨wo, rfl⟩ : ∃ wo : World, wo = wr := ⟨_, rfl⟩
        go_loopw [9] (fun u wr => ∃ k2 m : Nat, k2 ≤ told.size ∧ u = .int .i64 k2 ∧ (∀ j, j < k2 → bAt told j ≠ c) ∧ wr = wo.drewN m) (fun u _ => told.size - (intOf u).toNat)
        case atStart => exact ⟨0, 0, by omega, rfl, fun j hj => by omega, rfl⟩
        case round =>
          obtain ⟨k2, m, hk2', rfl, hno, rfl⟩ := hrel
          have HN2 := Lib.hid hno
          clear hno
          by_cases hlt2 : k2 < told.size
          · have hd0 := bAt_get told k2 hlt2
            have hk3 : (k2 : Int) < (told.size : Int) := by omega
            obtain ⟨d, hd⟩ : ∃ d, bAt told k2 = d := ⟨_, rfl⟩
            rw [hd] at hd0
            have HD := Lib.hid hd
            clear hd
            by_cases hdc : d = c
            · have HR0 := Lib.hid (show letterB toks i (bytesI told) = 0 by rw [HV.out, if_pos (mem_bytesI.2 ⟨k2, hlt2, by rw [HD.out, hdc]⟩)])
              subst hdc
              go_wp2_with fail
              go_quiet (fail)
              go_wp2_with fail
              go_ret
              exact ⟨by rw [HR0.out]; rfl, below_drewN (below_drewN (Below.refl _ _) _) _⟩
            · have hdc2 : (d == c) = false := by simp [hdc]
              go_wp2_with fail
              go_quiet (fail)
              go_wp2_with fail
              go_roundw
              case rel => exact ⟨k2 + 1, _, by omega, by go_num, fun j hj => by
                by_cases e : j = k2
                · subst e; rw [HD.out]; exact hdc
                · exact HN2.out j (by omega), rfl⟩
              case measure => simp [intOf]; omega
          · have HR0 := Lib.hid (show letterB toks i (bytesI told) = c by rw [HV.out, if_neg (by rw [mem_bytesI]; rintro ⟨j, hj, e⟩; exact HN2.out j (by omega) e)])
            have hk3 : (told.size : Int) ≤ (k2 : Int) := by omega
            go_wp2_with fail
            go_ret
            exact ⟨by rw [HR0.out]; rfl, below_drewN (Below.refl _ _) _⟩
    · obtain rfl : k = 12 := by omega
      have hv : letterB toks i (bytesI told) = 0 := letterB_none (fun c hc => by
        obtain ⟨k, hk1, hk2⟩ := HA.out c hc
        rw [← hk2]; exact HN.out k hk1)
      have HV := Lib.hid hv
      clear hv
      go_wp2_with fail
      go_ret
      exact ⟨by rw [HV.out]; rfl, Below.refl _ _⟩
end Go.Proofs.Ytllloonfnbhoeaa
/- Rows of nodes compared. (Of no function.) -/
namespace Go.Proofs.Ytllloonfnbhoeaa
open Go.RowKit
set_option linter.unusedVariables false
set_option linter.unusedSimpArgs false
def cellsM (w : World) (D : Nat) (m : NdM) : Prop := Box w D (encM m)
theorem ndB_M {w : World} {m1 m2 : NdM} {x1 x2 : Nd} (h1 : Shows w m1 x1) (h2 : Shows w m2 x2) : ndB x1 x2 = (m1.kind == m2.kind && m1.size == m2.size && styB m1.sty m2.sty && m1.line == m2.line && m1.space == m2.space && m1.side == m2.side && m1.w == m2.w && m1.h == m2.h && x1.words == x2.words) := by
  obtain ⟨⟨a1, a2, a3, a4, a5, a6, a7, a8⟩, _⟩ := h1
  obtain ⟨⟨b1, b2, b3, b4, b5, b6, b7, b8⟩, _⟩ := h2
  unfold ndB
  rw [a1, a2, a3, a4, a5, a6, a7, a8, b1, b2, b3, b4, b5, b6, b7, b8]
theorem words_ne {a b : List Int} {k : Nat} {x y : Int} (h1 : a[k]? = some x) (h2 : b[k]? = some y) (h : x ≠ y) : (a == b) = false := by
  rw [beq_eq_false_iff_ne]
  rintro rfl
  rw [h1] at h2
  injection h2 with h2
  exact h h2
theorem words_eq {a b : List Int} (hl : a.length = b.length) (h : ∀ k, k < a.length → a[k]? = b[k]?) : (a == b) = true := by
  rw [beq_iff_eq]
  refine List.ext_getElem? fun k => ?_
  rcases Nat.lt_or_ge k a.length with hk | hk
  · exact h k hk
  · rw [List.getElem?_eq_none hk, List.getElem?_eq_none (by omega)]
def ndsB (a b : List Nd) : Bool := decide (a = b)
theorem ndsB_all {a b : List Nd} (hl : a.length = b.length) (h : ∀ j, j < a.length → a[j]? = b[j]?) : ndsB a b = true := by
  unfold ndsB
  rw [decide_eq_true_eq]
  refine List.ext_getElem? fun k => ?_
  rcases Nat.lt_or_ge k a.length with hk | hk
  · exact h k hk
  · rw [List.getElem?_eq_none hk, List.getElem?_eq_none (by omega)]
theorem ndsB_ne {a b : List Nd} {k : Nat} {x y : Nd} (h1 : a[k]? = some x) (h2 : b[k]? = some y) (h : x ≠ y) : ndsB a b = false := by
  unfold ndsB
  rw [decide_eq_false_iff_not]
  rintro rfl
  rw [h1] at h2
  injection h2 with h2
  exact h h2
theorem ndsB_len {a b : List Nd} (h : a.length ≠ b.length) : ndsB a b = false := by
  unfold ndsB
  rw [decide_eq_false_iff_not]
  rintro rfl
  exact h rfl
end Go.Proofs.Ytllloonfnbhoeaa
/- The document's answers for package tree: all rooms. -/
namespace Go.Proofs.Ytllloonfnbhoeaa
open Go.RowKit
set_option linter.unusedVariables false
set_option linter.unusedSimpArgs false
theorem cells_two (w : World) (t : TypeId) (u v : Value) : Cells (w.alloc (.cells #[u, v] t)) (some ⟨w.heap.size, 0, none⟩) 1 2 [u, v] :=
  ⟨rfl, by decide, fun _ => ⟨w.heap.size, 0, rfl, by simp, fun j y hy => by
    have := (Box.new w [u, v] t).2.2 j y hy
    rw [Nat.zero_add]; exact this⟩⟩
/-- the rooms of the first k nodes. -/
def roomsTo (L : List Nd) (W : Int) (k : Nat) : List (Int × Int) := (List.range k).map (roomP L W)
theorem roomsTo_zero (L : List Nd) (W : Int) : roomsTo L W 0 = [] := rfl
theorem roomsTo_len (L : List Nd) (W : Int) (k : Nat) : (roomsTo L W k).length = k := by unfold roomsTo; rw [List.length_map, List.length_range]
theorem roomsTo_step (L : List Nd) (W : Int) (k : Nat) : roomsTo L W (k + 1) = roomsTo L W k ++ [roomP L W k] := by
  unfold roomsTo
  rw [List.range_succ, List.map_append]
  rfl
theorem roomsTo_cells (L : List Nd) (W : Int) (k : Nat) : (roomsTo L W (k + 1)).flatMap encRm = (roomsTo L W k).flatMap encRm ++ [.int .i64 (roomP L W k).1, .int .i64 (roomP L W k).2] := by
  rw [roomsTo_step, List.flatMap_append]
  rfl
theorem roomsTo_get {L : List Nd} {W : Int} {k i : Nat} (h : i < k) : (roomsTo L W k)[i]? = some (roomP L W i) := by
  unfold roomsTo
  rw [List.getElem?_map, List.getElem?_range h]
  rfl
/-- all rooms on any width. -/
def roomsI (L : List Nd) (W : Int) : List (Int × Int) := if W < 1 ∨ maxX < W then [] else roomsTo L W L.length
theorem RoomsOut.rows {w w' : World} {zs : List (Int × Int)} {e : Ending} (h : RoomsOut w zs e w') : ∃ A n c, e = .returned (.slice A n c) ∧ n = zs.length ∧ Rows 2 encRm w' A n zs ∧ Below w.heap.size w w' := by
  obtain ⟨A, n, c, h1, h2, h3⟩ := h
  have hi := ownsRow_rows encRm_len (by decide) h2
  exact ⟨A, n, c, h1, hi.len.symm, hi, h3⟩
set_option maxHeartbeats 4000000 in
set_option maxRecDepth 100000 in
theorem vrooms_to {L : List Nd} (hd : IsDoc L) {W : Int} {zs : List (Int × Int)} (hv : roomsI L W = zs) {A : Option Addr} {n c : Nat} {w : World} (h : Sees w A n L) (hn2 : n ≤ 100000) :
    Calls Try.prog 22 #[.slice A n c, .int .i64 W] w (RoomsOut w zs) := by
  unfold roomsI maxX at hv
  obtain ⟨D, hD⟩ : ∃ D, w.heap.size = D := ⟨_, rfl⟩
  by_cases h1 : W < 1
  · rw [if_pos (.inl h1)] at hv
    subst hv
    clear h hd
    go_enter Try.func22, Try.ntmps22
    go_wp2_with fail
    go_ret
    exact ⟨none, 0, 0, rfl, owns_nil _ _ _ _, Below.refl _ _⟩
  by_cases h2 : 1099511627776 < W
  · rw [if_pos (.inr h2)] at hv
    subst hv
    clear h hd
    go_enter Try.func22, Try.ntmps22
    go_wp2_with fail
    go_ret
    exact ⟨none, 0, 0, rfl, owns_nil _ _ _ _, Below.refl _ _⟩
  rw [if_neg (fun hq => hq.elim h1 h2)] at hv
  have w1 : 1 ≤ W := by omega
  have w2 : W ≤ 1099511627776 := by omega
  clear h1 h2
  obtain ⟨i0, hi0, hz0, hz1, hz2⟩ := info_parts room_info
  have HA := Lib.hid h
  have HL := Lib.hid h.len
  have HV := Lib.hid (show roomsTo L W n = zs by rw [← hv, h.len])
  have HD := Lib.hid hD
  have HI := Lib.hid (fun (k : Nat) (hk : k < n) (v : World) (hs : Sees v A n L) => vroom_to hd w1 w2 (c := c) hn2 hk hs)
  clear h hv hD hd
  go_enter Try.func22, Try.ntmps22
  go_wp2_with fail
  go_loopw [5, 6] (fun o i wr => ∃ (k c1 : Nat) (A1 : Option Addr), k ≤ n ∧ i = .int .i64 (k : Int) ∧ o = .slice A1 k c1 ∧ wr.ownsRow D 37 2 (.slice A1 k c1) k ((roomsTo L W k).flatMap encRm) ∧ On w wr) (fun _ i _ => n - (intOf i).toNat)
  case atStart => exact ⟨0, 0, none, Nat.zero_le _, rfl, rfl, owns_nil _ _ _ _, On.refl w⟩
  case round =>
    obtain ⟨k, c1, A1, hkn, rfl, rfl, hown, hon⟩ := hrel
    have HO := Lib.hid hon
    have HOw := Lib.hid hown
    clear hon hown
    by_cases hlt : k < n
    · have hk2 : (k : Int) < (n : Int) := by omega
      have HST := Lib.hid (roomsTo_cells L W k)
      obtain ⟨⟨x, y⟩, hp⟩ : ∃ p, roomP L W k = p := ⟨_, rfl⟩
      have HP := Lib.hid hp
      clear hp
      go_wp2_with fail
      refine (HI.out k hlt _ (HA.out.on HO.out)).mono ?_
      rw [HP.out]
      rintro e wq ⟨rfl, hb⟩
      have HO1 := Lib.hid (HO.out.step hb)
      have HOw1 := Lib.hid (owns_below HOw.out hb)
      have HE := Lib.hid (show (roomsTo L W (k + 1)).flatMap encRm = (roomsTo L W k).flatMap encRm ++ [.int .i64 x, .int .i64 y] by rw [HST.out, HP.out])
      clear hb
      go_wp2_with ((with_reducible refine stop_dst 25 ?_ ?_); exact rfl)
      refine Stop.intro ?_
      have hOA := owns_below HOw1.out ((Below.refl wq.heap.size wq).alloc (Nat.le_refl _) (.cells #[.int .i64 x, .int .i64 y] 37))
      have hws := HO1.out.size
      refine wpList_append_cells _ rfl (.tmp 19) (.tmp 24) _ rfl D 37 i0 (.agg #[.int .i64 0, .int .i64 0]) 2 16 Try.underlying30 hi0 hz0 hz1 hz2 rfl (by decide) (.slice A1 k c1) k _ rfl hOA _ 1 1 _ rfl (cells_two wq 37 (.int .i64 x) (.int .i64 y)) (encRm_one (x, y)) (by unfold maxLen; omega) (by omega) (by have := HD.out; simp; omega) ?_
      intro A2 c2 wz hown2 hg2
      have hb2 : On w wz := (HO1.out.alloc _).grown hg2 (by simp; omega) (fun r e => by have := owns_block hOA r e; have := HD.out; omega)
      have HO2 := Lib.hid hb2
      have HOw2 := Lib.hid (show wz.ownsRow D 37 2 (.slice A2 (k + 1) c2) (k + 1) ((roomsTo L W (k + 1)).flatMap encRm) by rw [HE.out]; exact hown2)
      clear hOA hown2 hg2 hb2
      go_wp2_with fail
      go_roundw
      case rel => exact ⟨k + 1, c2, A2, by omega, by go_num, rfl, HOw2.out, HO2.out⟩
      case measure => simp [intOf] <;> omega
    · obtain rfl : k = n := by omega
      have hk2 : (k : Int) ≤ (k : Int) := by omega
      go_wp2_with fail
      go_ret
      exact ⟨A1, k, c1, rfl, by rw [HD.out, ← HV.out]; exact HOw.out, HO.out⟩
end Go.Proofs.Ytllloonfnbhoeaa
/- The program's package tree: the room that an inset leaves. -/
namespace Go.Proofs.Ytllloonfnbhoeaa
open Go.RowKit
set_option linter.unusedVariables false
set_option linter.unusedSimpArgs false
theorem sum_two {x i : Int} (h0 : 0 ≤ x) (h1 : x ≤ 1099511627776) (h2 : 0 ≤ i) (h3 : i ≤ 1099511627776) : sumL [x, i] = min (x + i) 1099511627776 := by
  show lim (lim (0 + lim x) + lim i) = _
  rw [lim_in (n := x) (by omega) h1, lim_in (n := 0 + x) (by omega) (by omega), lim_in (n := i) (by omega) h3]
  unfold lim
  omega
set_option maxHeartbeats 2000000 in
set_option maxRecDepth 100000 in
theorem twithin_to {x y i p q : Int} (x0 : 0 ≤ x) (x1 : x ≤ 1099511627776) (y0 : 1 ≤ y) (y1 : y ≤ 1099511627776) (i0 : 0 ≤ i) (i1 : i ≤ 1099511627776) (hp : min (x + i) 1099511627776 = p) (hq : max (y - i - i) 1 = q) (w : World) :
    Calls Try.prog 34 #[.agg #[.int .i64 x, .int .i64 y], .int .i64 i] w fun e w' => e = .returned (.agg #[.int .i64 p, .int .i64 q]) ∧ Below w.heap.size w w' := by
  have HP := Lib.hid (show sumL [x, i] = p by rw [sum_two x0 x1 i0 i1, hp])
  have HQ := Lib.hid (show max (y - 2 * i) 1 = q by rw [← hq]; omega)
  have hw1 : IntKind.i64.wrap (2 * i) = 2 * i := IntWalk.i64_in _ (by omega)
  have hw2 : IntKind.i64.wrap (y - 2 * i) = y - 2 * i := IntWalk.i64_in _ (by omega)
  clear hp hq
  go_enter Try.func34, Try.ntmps34
  go_wp2_with fail
  generalize hW : (w.alloc (.cells #[.int .i64 x, .int .i64 y] 37)).alloc (.cells #[.int .i64 0, .int .i64 0] 37) = W
  have hA : Box W w.heap.size [.int .i64 x, .int .i64 y] := by rw [← hW]; exact (Box.new2 _ _ _ _).alloc _
  have hR : Box W (w.heap.size + 1) [.int .i64 0, .int .i64 0] := by rw [← hW]; exact Box.new2' _ _ _ _ _ (by simp)
  have HB := Lib.hid (show Below w.heap.size w W by rw [← hW]; go_grown)
  clear hW
  obtain ⟨a0, a1⟩ := On.of2 hA
  refine wp_region_held_tail 12 (S := fun W' => On W W') (by kernel_rfl) (by kernel_rfl) rfl (On.refl _).drew (fun h0 => ?_)
  simp only [headOf, List.take_succ_cons, List.take_zero, List.getElem_toArray, List.getElem_cons_succ, List.getElem_cons_zero]
  refine wpAnyH_take (i := 0) (v := ?_) rfl (by kernel_rfl) (by kernel_rfl) (by kernel_rfl) (fun _ _ _ h => h) (Or.inl ⟨by rfl, ?_⟩) h0 ?_
  rotate_left
  · intro w hSw; (try dsimp only at hSw); go_simp; with_reducible rfl
  try simp only [Act.put, List.setIfInBounds_toArray, List.set_cons_zero, List.set_cons_succ]
  refine wpAnyH_take (i := 1) (v := ?_) rfl (by kernel_rfl) (by kernel_rfl) (by kernel_rfl) (fun _ _ _ h => h) (Or.inl ⟨by rfl, ?_⟩) h0 ?_
  rotate_left
  · intro w hSw; (try dsimp only at hSw); go_simp; with_reducible rfl
  try simp only [Act.put, List.setIfInBounds_toArray, List.set_cons_zero, List.set_cons_succ]
  refine wpAnyH_take (i := 2) (v := ?_) rfl (by kernel_rfl) (by kernel_rfl) (by kernel_rfl) (fun _ _ _ h => h) (Or.inl ⟨by rfl, ?_⟩) h0 ?_
  rotate_left
  · intro w hSw; (try dsimp only at hSw); go_simp; with_reducible rfl
  try simp only [Act.put, List.setIfInBounds_toArray, List.set_cons_zero, List.set_cons_succ]
  refine wpAnyH_take (i := 5) (v := ?_) rfl (by kernel_rfl) (by kernel_rfl) (by kernel_rfl) (fun _ _ _ h => h) (Or.inl ⟨by rfl, ?_⟩) h0 ?_
  rotate_left
  · intro w hSw; (try dsimp only at hSw); go_simp; with_reducible rfl
  try simp only [Act.put, List.setIfInBounds_toArray, List.set_cons_zero, List.set_cons_succ]
  refine wpAnyH_take (i := 6) (v := ?_) rfl (by kernel_rfl) (by kernel_rfl) (by kernel_rfl) (fun _ _ _ h => h) (Or.inl ⟨by rfl, ?_⟩) h0 ?_
  rotate_left
  · intro w hSw; (try dsimp only at hSw); go_simp; with_reducible rfl
  try simp only [Act.put, List.setIfInBounds_toArray, List.set_cons_zero, List.set_cons_succ]
  refine wpAnyH_take (i := 7) (v := ?_) rfl (by kernel_rfl) (by kernel_rfl) (by kernel_rfl) (fun _ _ _ h => h) (Or.inl ⟨by rfl, ?_⟩) h0 ?_
  rotate_left
  · intro w hSw; (try dsimp only at hSw); go_simp; with_reducible rfl
  try simp only [Act.put, List.setIfInBounds_toArray, List.set_cons_zero, List.set_cons_succ]
  refine wpAnyH_take (i := 8) (v := ?_) rfl (by kernel_rfl) (by kernel_rfl) (by kernel_rfl) (fun _ _ _ h => h) (Or.inl ⟨by rfl, ?_⟩) h0 ?_
  rotate_left
  · intro w hSw; (try dsimp only at hSw); go_simp; with_reducible rfl
  try simp only [Act.put, List.setIfInBounds_toArray, List.set_cons_zero, List.set_cons_succ]
  refine wpAnyH_take (i := 9) (v := ?_) rfl (by kernel_rfl) (by kernel_rfl) (by kernel_rfl) (fun _ _ _ h => h) (Or.inl ⟨by rfl, ?_⟩) h0 ?_
  rotate_left
  · intro w hSw; (try dsimp only at hSw); go_simp; with_reducible rfl
  try simp only [Act.put, List.setIfInBounds_toArray, List.set_cons_zero, List.set_cons_succ]
  refine wpAnyH_take (i := 10) (v := ?_) rfl (by kernel_rfl) (by kernel_rfl) (by kernel_rfl) (fun _ _ _ h => h) (Or.inl ⟨by rfl, ?_⟩) h0 ?_
  rotate_left
  · intro w hSw; (try dsimp only at hSw); go_simp; with_reducible rfl
  try simp only [Act.put, List.setIfInBounds_toArray, List.set_cons_zero, List.set_cons_succ]
  refine wpAnyH_ready (rs := [3]) (by kernel_rfl) (by simp) ?_
  refine AllReadyH.cons rfl (fun K hK => ?_) AllReadyH.nil
  go_simp
  refine hK.out _ _ (On.alloc h0 _) (fun h1 => ?_)
  clear hK K
  try simp only [Act.put, List.setIfInBounds_toArray, List.set_cons_zero, List.set_cons_succ]
  refine wpAnyH_ready (rs := [4]) (by kernel_rfl) (by simp) ?_
  refine AllReadyH.cons rfl (fun K hK => ?_) AllReadyH.nil
  go_simp
  refine (add_any _ _ _ _ _ ((Ints.new2 W 3 x i).below (Below.refl _ _).drew rfl)).mono ?_
  rintro e v2 ⟨rfl, rfl⟩
  refine hK.out _ _ h1 (fun h2 => ?_)
  clear hK K
  try simp only [Act.put, List.setIfInBounds_toArray, List.set_cons_zero, List.set_cons_succ]
  refine wpAnyH_take (i := 11) (v := ?_) rfl (by kernel_rfl) (by kernel_rfl) (by kernel_rfl) (fun _ _ _ h => h) (Or.inl ⟨by rfl, ?_⟩) h2 ?_
  rotate_left
  · intro w hSw; (try dsimp only at hSw); go_simp; with_reducible rfl
  try simp only [Act.put, List.setIfInBounds_toArray, List.set_cons_zero, List.set_cons_succ]
  refine wpAnyH_done (by kernel_rfl) ?_ _
  show wpList _ _ _ _ _ _
  replace hR := On.box hR _ h2
  replace HB := Lib.hid (below_then HB.out h2)
  clear a0 a1 hA h0 h1 h2
  generalize (W.alloc (.cells #[.int .i64 x, .int .i64 i] 3)).drew = V at hR HB ⊢
  obtain ⟨r0, r1, f0, f1, r4⟩ := hR.of2
  rw [HP.out]
  have hbs := HB.out.size
  go_wp2_with fail
  have hY := (hR.set 0 (.int .i64 p) (by simp)).set 1 (.int .i64 (max (y - 2 * i) 1)) (by simp)
  have s0 := hY.2.2 0 _ rfl
  have s1 := hY.2.2 1 _ rfl
  exact bodyPost_ret (v := .agg #[.int .i64 p, .int .i64 q]) (by rw [← HQ.out]; simp [results, Try.results34, go_sem, s0, s1]) rfl ⟨rfl, (HB.out.setCell (by simp) _).setCell (by simp) _⟩
end Go.Proofs.Ytllloonfnbhoeaa
/- The program's package valid: how much a node is; sums put together. -/
namespace Go.Proofs.Ytllloonfnbhoeaa
open Go.RowKit
set_option linter.unusedVariables false
set_option linter.unusedSimpArgs false
def encSm (s : Sm) : List Value := [.int .i64 s.depth, .int .i64 s.pieces, .int .i64 s.nodes, .int .i64 s.heights]
def sumV (s : Sm) : Value := .agg #[.int .i64 s.depth, .int .i64 s.pieces, .int .i64 s.nodes, .int .i64 s.heights]
def timesI (line many : Int) : Int := if 1099511627777 / many < line then 1099511627777 else line * many
theorem timesI_cut {line many : Int} (h1 : 1 ≤ line) (h2 : 1 ≤ many) : timesI line many = cut (line * many) := by
  unfold timesI cut cutN
  have hm : 0 ≤ line * many := Int.mul_nonneg (by omega) (by omega)
  by_cases h : 1099511627777 / many < line
  · rw [if_pos h]
    have := (Int.ediv_lt_iff_lt_mul (by omega : 0 < many)).1 h
    omega
  · rw [if_neg h]
    have := (Int.le_ediv_iff_mul_le (by omega : 0 < many)).1 (by omega : line ≤ 1099511627777 / many)
    omega
theorem ptimes_any (line many : Int) (w : World) (h1 : 1 ≤ line) (h2 : 1 ≤ many) (h3 : many ≤ 9223372036854775807) : Calls Try.prog 78 #[.int .i64 line, .int .i64 many] w fun e w' => e = .returned (.int .i64 (timesI line many)) ∧ w = w' := by
  have q0 := Int.ediv_nonneg (show (0 : Int) ≤ 1099511627777 by decide) (show 0 ≤ many by omega)
  have q1 := Int.ediv_le_self many (show (0 : Int) ≤ 1099511627777 by decide)
  have hz : (many == 0) = false := by simp; omega
  have hz2 : ¬ many = 0 := by omega
  by_cases h : 1099511627777 / many < line
  · have HV := Lib.hid (show timesI line many = 1099511627777 by unfold timesI; rw [if_pos h])
    go_enter Try.func78, Try.ntmps78
    go_wp2_with fail
    go_ret
    exact ⟨ret_int (by rw [HV.out]), rfl⟩
  · have HV := Lib.hid (show timesI line many = line * many by unfold timesI; rw [if_neg h])
    have hle := (Int.le_ediv_iff_mul_le (by omega : 0 < many)).1 (by omega : line ≤ 1099511627777 / many)
    have hm : 0 ≤ line * many := Int.mul_nonneg (by omega) (by omega)
    have hwr : IntKind.i64.wrap (line * many) = line * many := by rw [IntKind.wrap_i64]; omega
    have h' : line ≤ 1099511627777 / many := by omega
    clear h hle hm
    go_enter Try.func78, Try.ntmps78
    go_wp2_with fail
    go_ret
    exact ⟨ret_int (by rw [HV.out]), rfl⟩
theorem ptimes_to {line many v : Int} (hv : timesI line many = v) (w : World) (h1 : 1 ≤ line) (h2 : 1 ≤ many) (h3 : many ≤ 9223372036854775807) : Calls Try.prog 78 #[.int .i64 line, .int .i64 many] w fun e w' => e = .returned (.int .i64 v) ∧ w = w' := by
  subst hv; exact ptimes_any line many w h1 h2 h3
def plusS (s x : Sm) : Sm := ⟨max s.depth x.depth, wr (s.pieces + x.pieces), s.nodes + x.nodes, min (s.heights + x.heights) cutN⟩
set_option maxHeartbeats 4000000 in
set_option maxRecDepth 100000 in
theorem ptogether_any (s x : Sm) (b c : Nat) (w : World) (hB : Box w b [.int .i64 s.depth, .int .i64 s.pieces, .int .i64 s.nodes, .int .i64 s.heights, .int .i64 x.depth, .int .i64 x.pieces, .int .i64 x.nodes, .int .i64 x.heights])
    (h1 : 0 ≤ s.depth) (h2 : wr s.pieces = s.pieces) (h3 : 0 ≤ s.nodes ∧ s.nodes ≤ 1152921504606846976) (h4 : 0 ≤ s.heights ∧ s.heights ≤ 1099511627777) (k1 : 0 ≤ x.depth) (k3 : 0 ≤ x.nodes ∧ x.nodes ≤ 1152921504606846976) (k4 : 0 ≤ x.heights ∧ x.heights ≤ 1152921504606846976) :
    Calls Try.prog 70 #[.slice (some ⟨b, 0, none⟩) 2 c] w fun e w' => e = .returned (sumV (plusS s x)) ∧ Below w.heap.size w w' := by
  obtain ⟨d0, p0, n0, g0⟩ := s
  obtain ⟨d1, p1, n1, g1⟩ := x
  simp only at *
  obtain ⟨p, hp⟩ : ∃ p, IntKind.i64.wrap (p0 + p1) = p := ⟨_, rfl⟩
  have hp2 : wr (p0 + p1) = p := hp
  have hp0 : IntKind.i64.wrap p0 = p0 := h2
  obtain ⟨n, hn⟩ : ∃ n, n0 + n1 = n := ⟨_, rfl⟩
  obtain ⟨d, hd⟩ : ∃ d, max d0 d1 = d := ⟨_, rfl⟩
  obtain ⟨g, hg⟩ : ∃ g, min (g0 + g1) 1099511627777 = g := ⟨_, rfl⟩
  have HV := Lib.hid (show plusS ⟨d0, p0, n0, g0⟩ ⟨d1, p1, n1, g1⟩ = ⟨d, p, n, g⟩ by unfold plusS cutN; simp only [hp2, hn, hd, hg])
  clear hp2 h2
  have m0 : max 0 d0 = d0 := by omega
  have m1 : min g0 1099511627777 = g0 := by omega
  have HB := Lib.hid hB
  have hlt := hB.1
  clear hB
  go_enter Try.func70, Try.ntmps70
  go_wp2_with fail
  go_loopw [8] (fun i wr => ∃ k : Nat, i = .int .i64 k ∧ Below w.heap.size w wr ∧ Box wr w.heap.size [.int .i64 0, .int .i64 0, .int .i64 0, .int .i64 0] ∧ ((k = 0 ∧ Box wr (w.heap.size + 1) [.int .i64 0, .int .i64 0, .int .i64 0, .int .i64 0]) ∨ (k = 1 ∧ Box wr (w.heap.size + 1) [.int .i64 d0, .int .i64 p0, .int .i64 n0, .int .i64 g0]) ∨ (k = 2 ∧ Box wr (w.heap.size + 1) [.int .i64 d, .int .i64 p, .int .i64 n, .int .i64 g]))) (fun i _ => 2 - (intOf i).toNat)
  case atStart => exact ⟨0, rfl, by go_grown, (box_new w _ _ _ rfl _ rfl).alloc _, .inl ⟨rfl, box_new _ _ _ _ (by simp) _ rfl⟩⟩
  case round =>
    obtain ⟨k, rfl, hon, hX, hk⟩ := hrel
    have hD := hon.size
    have hbb := HB.out.belowB hon hlt
    have HX := Lib.hid hX
    have HO := Lib.hid hon
    rcases hk with ⟨rfl, hS⟩ | ⟨rfl, hS⟩ | ⟨rfl, hS⟩
    · have HS := Lib.hid hS
      have c0 := hbb.2.2 0 _ rfl
      have c1 := hbb.2.2 1 _ rfl
      have c2 := hbb.2.2 2 _ rfl
      have c3 := hbb.2.2 3 _ rfl
      have s0 := hS.2.2 0 _ rfl
      have s1 := hS.2.2 1 _ rfl
      have s2 := hS.2.2 2 _ rfl
      have s3 := hS.2.2 3 _ rfl
      have f0 := hS.2.1 0
      have f1 := hS.2.1 1
      have f2 := hS.2.1 2
      have f3 := hS.2.1 3
      have hl := hS.1
      have hne : ¬ w.heap.size + 1 = wr.heap.size := by omega
      clear hX hon hbb hS
      go_wp2_with fail
      go_roundw
      case rel =>
        refine ⟨1, by go_num, (((((HO.out.setCell (by simp) _).setCell (by simp) _).setCell (by simp) _).setCell (by simp) _).alloc (by simp; omega) _), ((((HX.out.set_other (by omega) _ _).set_other (by omega) _ _).set_other (by omega) _ _).set_other (by omega) _ _).alloc _, .inr (.inl ⟨rfl, ?_⟩)⟩
        exact ((((HS.out.set 0 _ (by simp)).set 1 _ (by simp)).set 2 _ (by simp)).set 3 _ (by simp)).alloc _
      case measure => simp [intOf]
    · have HS := Lib.hid hS
      have c0 := hbb.2.2 4 _ rfl
      have c1 := hbb.2.2 5 _ rfl
      have c2 := hbb.2.2 6 _ rfl
      have c3 := hbb.2.2 7 _ rfl
      have s0 := hS.2.2 0 _ rfl
      have s1 := hS.2.2 1 _ rfl
      have s2 := hS.2.2 2 _ rfl
      have s3 := hS.2.2 3 _ rfl
      have f0 := hS.2.1 0
      have f1 := hS.2.1 1
      have f2 := hS.2.1 2
      have f3 := hS.2.1 3
      have hl := hS.1
      have hne : ¬ w.heap.size + 1 = wr.heap.size := by omega
      clear hX hon hbb hS
      go_wp2_with fail
      go_roundw
      case rel =>
        refine ⟨2, by go_num, (((((HO.out.setCell (by simp) _).setCell (by simp) _).setCell (by simp) _).setCell (by simp) _).alloc (by simp; omega) _), ((((HX.out.set_other (by omega) _ _).set_other (by omega) _ _).set_other (by omega) _ _).set_other (by omega) _ _).alloc _, .inr (.inr ⟨rfl, ?_⟩)⟩
        exact ((((HS.out.set 0 _ (by simp)).set 1 _ (by simp)).set 2 _ (by simp)).set 3 _ (by simp)).alloc _
      case measure => simp [intOf]
    · have HS := Lib.hid hS
      have s0 := hS.2.2 0 _ rfl
      have s1 := hS.2.2 1 _ rfl
      have s2 := hS.2.2 2 _ rfl
      have s3 := hS.2.2 3 _ rfl
      have x0 := hX.2.2 0 _ rfl
      have x1 := hX.2.2 1 _ rfl
      have x2 := hX.2.2 2 _ rfl
      have x3 := hX.2.2 3 _ rfl
      have f0 := hX.2.1 0
      have f1 := hX.2.1 1
      have f2 := hX.2.1 2
      have f3 := hX.2.1 3
      have hl := hX.1
      clear hX hon hbb hS
      go_wp2_with fail
      have hY := (((HX.out.set 0 (.int .i64 d) (by simp)).set 1 (.int .i64 p) (by simp)).set 2 (.int .i64 n) (by simp)).set 3 (.int .i64 g) (by simp)
      have r0 := hY.2.2 0 _ rfl
      have r1 := hY.2.2 1 _ rfl
      have r2 := hY.2.2 2 _ rfl
      have r3 := hY.2.2 3 _ rfl
      refine bodyPost_ret (v := .agg #[.int .i64 d, .int .i64 p, .int .i64 n, .int .i64 g]) (by simp [results, Try.results70, go_sem, r0, r1, r2, r3]) rfl ⟨by rw [HV.out]; rfl, ?_⟩
      exact (((HO.out.setCell (by simp) _).setCell (by simp) _).setCell (by simp) _).setCell (by simp) _
theorem ptogether_to {s x y : Sm} (hy : plusS s x = y) {b c : Nat} (w : World) (hB : Box w b [.int .i64 s.depth, .int .i64 s.pieces, .int .i64 s.nodes, .int .i64 s.heights, .int .i64 x.depth, .int .i64 x.pieces, .int .i64 x.nodes, .int .i64 x.heights])
    (h1 : 0 ≤ s.depth) (h2 : wr s.pieces = s.pieces) (h3 : 0 ≤ s.nodes ∧ s.nodes ≤ 1152921504606846976) (h4 : 0 ≤ s.heights ∧ s.heights ≤ 1099511627777) (k1 : 0 ≤ x.depth) (k3 : 0 ≤ x.nodes ∧ x.nodes ≤ 1152921504606846976) (k4 : 0 ≤ x.heights ∧ x.heights ≤ 1152921504606846976) :
    Calls Try.prog 70 #[.slice (some ⟨b, 0, none⟩) 2 c] w fun e w' => e = .returned (sumV y) ∧ Below w.heap.size w w' := by
  subst hy; exact ptogether_any s x b c w hB h1 h2 h3 h4 k1 k3 k4
end Go.Proofs.Ytllloonfnbhoeaa
