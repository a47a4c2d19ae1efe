import Derived.Test.YtamakeogaipdiaaJA16
import Derived.Test.YtamakeogaipdiaaJA11
import Derived.Test.YtamakeogaipdiaaJA01
import Derived.Lib.MinMax
import Derived.Test.YtamakeogaipdiaaJA17
import Derived.Test.YtamakeogaipdiaaJA15
/- The document's answers for package valid: Is. (Written by program: tools/drafts/genrefcnt.py.) -/
namespace Go.Proofs.Ytamakeogaipdiaa
open Go.RowKit
set_option linter.unusedVariables false
set_option linter.unusedSimpArgs false
theorem one_bad {l : List Nd} {k : Nat} {x : Nd} (hx : l[k]? = some x) (h : oneB x = false) : docB l = false := by
  unfold docB
  have : l.all oneB = false := by
    rw [List.all_eq_false]
    exact ⟨x, List.mem_of_getElem? hx, by rw [h]; simp⟩
  rw [this]; rfl
theorem one_good {l : List Nd} (h : ∀ (j : Nat) (x : Nd), j < l.length → l[j]? = some x → oneB x = true) : docB l = forestB l := by
  unfold docB
  have : l.all oneB = true := by
    rw [List.all_eq_true]
    intro x hx
    obtain ⟨j, hj, rfl⟩ := List.getElem_of_mem hx
    exact h j _ hj (List.getElem?_eq_getElem hj)
  rw [this]; rfl
set_option maxHeartbeats 4000000 in
set_option maxRecDepth 100000 in
theorem vIs_to {l : List Nd} {v : Bool} (hv : docB l = v) {A : Option Addr} {n c : Nat} {w : World} (h : Sees w A n l) : Calls Try.prog 34 #[.slice A n c] w fun e w' => e = .returned (.bool v) ∧ Below w.heap.size w w' := by
  have hla := h.len
  have hbd := h.bound
  have HA := Lib.hid h
  have HV := Lib.hid hv
  clear h hv
  go_enter Try.func34, Try.ntmps34
  go_wp2_with fail
  go_loopw [3] (fun i wr => ∃ k : Nat, k ≤ n ∧ i = .int .i64 k ∧ (∀ (j : Nat) (x : Nd), j < k → l[j]? = some x → oneB x = true) ∧ On w wr) (fun i _ => n - (intOf i).toNat)
  case atStart => exact ⟨0, by omega, rfl, fun j x hj => by omega, On.refl w⟩
  case round =>
    obtain ⟨k, hk, rfl, hall, hon⟩ := hrel
    have HL := Lib.hid hall
    have HO := Lib.hid hon
    clear hall hon
    by_cases hlt : k < n
    · obtain ⟨b1, o1, m1, x1, rfl, hb1, e1, r1, s1⟩ := (HA.out.on HO.out).at_ hlt
      have hk2 : (k : Int) < (n : Int) := by omega
      have R1 := Lib.hid (range_on r1)
      have S1 := Lib.hid s1
      have E1 := Lib.hid e1
      obtain ⟨u, hu⟩ : ∃ u, oneB x1 = u := ⟨_, rfl⟩
      have HU := Lib.hid hu
      clear r1 s1 e1 hu
      go_wp2_with ((with_reducible refine stop_load 45 (.tmp 12) ?_ ?_); exact rfl; refine Stop.intro ?_; refine wpList_load_mid rfl 45 (.tmp 12) rfl b1 (o1 + k * 20) rfl (encM m1) _ (R1.out wr (On.refl wr)) Try.underlying45 rfl (by kernel_rfl) ?_)
      refine (vone_to HU.out _ S1.out).mono ?_
      rintro e w5 ⟨rfl, hb5⟩
      have HO5 := Lib.hid (below_then HO.out hb5)
      clear hb5
      cases u with
      | false =>
        have HW := Lib.hid (show v = false by rw [← HV.out]; exact one_bad E1.out HU.out)
        go_wp2_with fail
        go_ret
        exact ⟨ret_bool HW.out.symm, HO5.out⟩
      | true =>
        go_wp2_with fail
        go_roundw
        case rel => exact ⟨k + 1, by omega, by go_num, fun j x hj hx => by
          by_cases e : j = k
          · subst e
            have := E1.out
            rw [this] at hx
            injection hx with hx
            subst hx
            exact HU.out
          · exact HL.out j x (by omega) hx, HO5.out⟩
        case measure => simp [intOf]; omega
    · have hk2 : (n : Int) ≤ (k : Int) := by omega
      have HW := Lib.hid (show forestB l = v by rw [← HV.out]; exact (one_good (fun j x hj => HL.out j x (by omega))).symm)
      go_wp2_with fail
      refine (vrows_all HW.out (HA.out.on HO.out)).mono ?_
      rintro e w5 ⟨rfl, hb5⟩
      have HO5 := Lib.hid (below_then HO.out hb5)
      clear hb5
      go_wp2_with fail
      go_ret
      exact ⟨rfl, HO5.out⟩
end Go.Proofs.Ytamakeogaipdiaa
/- The program's package valid: what a round of count makes of what is known. Nothing of the program stands here. -/
namespace Go.Proofs.Ytamakeogaipdiaa
open Go
set_option linter.unusedVariables false
set_option linter.unusedSimpArgs false
def upTo (l : List Nd) (k : Nat) : Prop := NestTo l k ∧ ∀ (j : Nat) (x : Nd), j < k → l[j]? = some x → x.fits
theorem upTo.zero (l : List Nd) : upTo l 0 := ⟨NestTo.zero l, fun j x h => by omega⟩
theorem upTo.succ {l : List Nd} {k : Nat} {x : Nd} (h : upTo l k) (hx : l[k]? = some x) (hn : NestAt l k) (hf : x.fits) : upTo l (k + 1) :=
  ⟨h.1.succ hn, fun j y hj hy => by
    rcases Nat.lt_or_ge j k with hjk | hjk
    · exact h.2 j y hjk hy
    · obtain rfl : j = k := by omega
      rw [hx] at hy; injection hy with hy; subst hy; exact hf⟩
theorem upTo.all {l : List Nd} {k : Nat} (h : upTo l k) (hk : l.length ≤ k) : IsDoc l := by
  refine ⟨fun x hx => ?_, (forest_iff_nested l).2 (h.1.all hk)⟩
  obtain ⟨j, hj, rfl⟩ := List.getElem_of_mem hx
  exact h.2 j _ (by omega) (List.getElem?_eq_getElem hj)
/-- the ends that are open ahead of place k: the whole row's, and blocks'. -/
def endsAt (l : List Nd) (k : Nat) : List Int := (l.length : Int) :: opnV l k ((k : Int) - 1)
def endsIn (l : List Nd) (k : Nat) : List Int := (l.length : Int) :: opnV l k k
theorem endsAt_zero (l : List Nd) : endsAt l 0 = [(l.length : Int)] := rfl
theorem ends_split {l : List Nd} {k : Nat} (h : upTo l k) : ∃ m, endsAt l k = endsIn l k ++ List.replicate m (k : Int) := by
  have hf := open_falls (z := (k : Int) - 1) h.1 (Int.le_refl _)
  obtain ⟨m, hm⟩ := falls_split (c := (k : Int)) hf (fun e he => by have := (mem_opnV.1 he).1; omega)
  rw [opnV_up l k (by omega)] at hm
  exact ⟨m, by unfold endsAt endsIn; rw [List.cons_append, ← hm]⟩
theorem endsIn_last (l : List Nd) (k : Nat) : (endsIn l k).getLast? = some (lastEnd l k) := by
  unfold endsIn lastEnd
  rcases h : (opnV l k k) with _ | ⟨a, t⟩
  · rfl
  · rw [List.getLast?_cons_cons]
    rcases hg : (a :: t).getLast? with _ | z
    · rw [List.getLast?_eq_none_iff] at hg; cases hg
    · rfl
theorem lastEnd_gt {l : List Nd} {k : Nat} (hk : k < l.length) : (k : Int) < lastEnd l k := by
  unfold lastEnd
  rcases hg : (opnV l k k).getLast? with _ | z
  · simp; omega
  · exact (mem_opnV.1 (List.mem_of_getLast? hg)).1
theorem lastEnd_le {l : List Nd} {k : Nat} (h : upTo l k) : lastEnd l k ≤ l.length := by
  unfold lastEnd
  rcases hg : (opnV l k k).getLast? with _ | z
  · simp
  · obtain ⟨_, j, y, hj, hy, _, rfl⟩ := mem_opnV.1 (List.mem_of_getLast? hg)
    exact (h.1 j hj y hy).2.1
theorem fits_nest {l : List Nd} {k : Nat} {x : Nd} {m : NdM} (h : upTo l k) (hx : l[k]? = some x) (e1 : x.kind = m.kind) (e2 : x.size = m.size) : fitsB m (lastEnd l k - k) = true ↔ NestAt l k := by
  have hgt := lastEnd_gt (List.getElem?_eq_some_iff.1 hx).1
  rw [fitsB_iff, nestAt_iff h.1 hx, ← e1, ← e2]
  constructor
  · rintro ⟨a, b, c⟩
    refine ⟨a, ?_, c⟩
    by_cases hk : x.kind = 1
    · exact b hk
    · have := c hk; omega
  · rintro ⟨a, b, c⟩
    exact ⟨a, fun _ => b, c⟩
theorem notdoc_nest {l : List Nd} {k : Nat} (h : ¬ NestAt l k) : ¬ IsDoc l := fun hd => h (((forest_iff_nested l).1 hd.2) k)
theorem notdoc_one {l : List Nd} {k : Nat} {x : Nd} (hx : l[k]? = some x) (h : oneB x = false) : ¬ IsDoc l := fun hd => by
  rw [(oneB_iff x).2 (hd.1 x (List.mem_of_getElem? hx))] at h; cases h
theorem endOf_keep {l : List Nd} {k : Nat} {x : Nd} (hx : l[k]? = some x) (h1 : 1 ≤ x.size) : (endOf l k).filter (fun e => decide ((k : Int) < e)) = endOf l k := by
  rw [endOf_at hx]
  split
  · rw [List.filter_cons_of_pos (by simp; omega)]; rfl
  · rfl
theorem ends_next {l : List Nd} {k : Nat} {x : Nd} (hx : l[k]? = some x) (h1 : 1 ≤ x.size) : endsIn l k ++ (if x.kind = 1 then [(k : Int) + x.size] else []) = endsAt l (k + 1) := by
  unfold endsIn endsAt
  rw [show ((k + 1 : Nat) : Int) - 1 = k by omega, opnV_succ, endOf_keep hx h1, endOf_at hx, List.cons_append]
theorem depN_at {l : List Nd} {k : Nat} {x : Nd} (hx : l[k]? = some x) (h1 : 1 ≤ x.size) (hk : x.kind = 1) : depN l k = (endsIn l k).length := by
  unfold depN endsIn
  rw [opnV_succ, endOf_keep hx h1, endOf_at hx, if_pos hk]
  simp
theorem endsIn_len (l : List Nd) (k : Nat) : (endsIn l k).length ≤ k + 1 := by
  have hAE : ∀ i, (AE l i).length ≤ i := by
    intro i
    induction i with
    | zero => simp [AE]
    | succ i ih =>
      rw [AE, List.length_append]
      have : (endOf l i).length ≤ 1 := by
        unfold endOf
        split
        · split <;> simp
        · simp
      omega
  unfold endsIn opnV
  have := List.length_filter_le (fun e => decide ((k : Int) < e)) (AE l k)
  have := hAE k
  simp; omega
theorem high_take {l : List Nd} {k : Nat} (h : upTo l k) : 0 ≤ sumI highN (l.take k) := sumI_pos fun x hx => by
  obtain ⟨j, hj, rfl⟩ := List.getElem_of_mem hx
  rw [List.length_take] at hj
  rw [List.getElem_take]
  exact high_pos (h.2 j _ (by omega) (List.getElem?_eq_getElem (by omega)))
theorem take_sum {l : List Nd} {k : Nat} {x : Nd} (h : upTo l k) (hx : l[k]? = some x) (hf : x.fits) (h1 : 1 ≤ x.size) (hw : x.words.length ≤ 9223372036854775807) : takeS (sumTo l k) x (endsIn l k).length = sumTo l (k + 1) := by
  obtain ⟨_, _, a3⟩ := alone_high hf hw
  have hd := depTo_pos l k
  have e : plusS (sumTo l k) (aloneS x) = ⟨depTo l k, wr (sumI piecesN (l.take (k + 1))), ((k + 1 : Nat) : Int), cut (sumI highN (l.take (k + 1)))⟩ := by
    unfold plusS
    rw [sumI_take piecesN hx, sumI_take highN hx, ← a3 _ (high_take h)]
    simp only [sumTo, aloneS]
    rw [wr_add]
    congr 1
    · omega
  unfold takeS
  rw [e]
  unfold sumTo
  rw [depTo_succ hx]
  split
  · rename_i hk
    rw [depN_at hx h1 hk]
  · rfl
theorem sum_small {l : List Nd} {k : Nat} (h : upTo l k) (hk : k ≤ 100000) : (sumTo l k).small := by
  have h3 := cut_le (sumI highN (l.take k))
  refine ⟨depTo_pos l k, wr_wr _, ⟨?_, ?_⟩, cut_pos (high_take h), ?_⟩
  · show (0 : Int) ≤ (k : Int); omega
  · show (k : Int) ≤ _; omega
  · show cut _ ≤ _
    unfold cutN at h3; exact h3
end Go.Proofs.Ytamakeogaipdiaa
