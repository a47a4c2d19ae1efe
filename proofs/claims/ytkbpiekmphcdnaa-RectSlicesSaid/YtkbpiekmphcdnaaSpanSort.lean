import Derived.Test.YtkbpiekmphcdnaaSort
import Derived.Test.YtkbpiekmphcdnaaSpanMath3
import Derived.Test.YtkbpiekmphcdnaaSlices
import Derived.Shelf.SlSortCmp.NoneTotal
/- slices.SortFunc on a row of spans of the call's own, by where they begin. -/
namespace Go.Proofs.Ytkbpiekmphcdnaa
open Go.RowKit Go.Lib Go.Sort
set_option linter.unusedVariables false
set_option linter.unusedSimpArgs false
def encS (x : Sp) : List Value := [.int .i64 x.1, .int .i64 x.2]
theorem encS_len (x : Sp) : (encS x).length = 2 := rfl
theorem isnan_any (a : Int) (w : World) : Calls Try.prog 51 #[.int .i64 a] w fun e w' => e = .returned (.bool false) ∧ w = w' := by
  go_enter Try.func51, Try.ntmps51
  go_wp2
  go_ret
  exact ⟨rfl, rfl⟩
def cmpI (a b : Int) : Int := if a < b then -1 else if b < a then 1 else 0
theorem compare_any (a b : Int) (w : World) : Calls Try.prog 48 #[.int .i64 a, .int .i64 b] w fun e w' => e = .returned (.int .i64 (cmpI a b)) ∧ w = w' := by
  unfold cmpI
  rcases (show a < b ∨ (¬ a < b ∧ b < a) ∨ (¬ a < b ∧ ¬ b < a) by omega) with h | ⟨h, h2⟩ | ⟨h, h2⟩
  all_goals
    go_enter Try.func48, Try.ntmps48
    go_wp2_with (go_at_call 51; refine (isnan_any _ _).mono ?_; rintro e w' ⟨rfl, rfl⟩)
    go_ret
    exact ⟨ret_int (by simp_all), rfl⟩
theorem closure_any (x y : Sp) (W : World) : Calls Try.prog 47 #[.agg #[.int .i64 x.1, .int .i64 x.2], .agg #[.int .i64 y.1, .int .i64 y.2]] W fun e w' => e = .returned (.int .i64 (cmpI x.1 y.1)) ∧ ∃ q os', w' = grow (W.drewN q) os' := by
  generalize hr : cmpI x.1 y.1 = r
  have HR := Lib.hid hr
  clear hr
  go_enter Try.func47, Try.ntmps47
  go_wp2_with (go_at_call 48; refine (compare_any _ _ _).mono ?_; rintro e w' ⟨rfl, rfl⟩)
  go_ret
  exact ⟨ret_int HR.out, 0, _, by rw [alloc_eq_grow, alloc_eq_grow, grow_grow]; rfl⟩
theorem ltS (x y : Sp) : ltOf (fun x y : Sp => cmpI x.1 y.1) x y = decide (x.1 < y.1) := by
  unfold ltOf cmpI
  by_cases h1 : x.1 < y.1
  · simp [h1]
  · by_cases h2 : y.1 < x.1 <;> simp [h1, h2]
theorem swoS : SWO (ltOf fun x y : Sp => cmpI x.1 y.1) where
  irrefl x := by rw [ltS]; simp
  trans x y z h1 h2 := by rw [ltS] at *; simp at *; omega
  ntrans x y z h1 h2 := by rw [ltS] at *; simp at *; omega
theorem isAggS : ∀ w, (isAgg 23).run Try.prog w = .ok true w := fun _ => by kernel_rfl
theorem sizeOfS : ∀ w, (Go.sizeOf 23).run Try.prog w = .ok 2 w := fun _ => by kernel_rfl
theorem mapBlock_other (w : World) (blk k : Nat) (f : Array Value → Array Value) (h : k ≠ blk) : (mapBlock w blk f).heap[k]? = w.heap[k]? := by
  unfold mapBlock
  simp only [Array.getElem?_modify]
  rw [if_neg (fun e => h e.symm)]
theorem below_sort {α : Type} [Inhabited α] (enc : α → List Value) (k : Nat) (w : World) (blk off m : Nat) (dk : Array α) (os : Array Obj) (hb : blk < w.heap.size) : Below blk w (sortWorldK enc k w blk off m dk os) := by
  have hsz : (putRowK enc k (Sort.ahead w m) blk off dk).heap.size = w.heap.size := by unfold putRowK; rw [size_putRow]; rfl
  refine ⟨rfl, rfl, rfl, ?_, fun i hi => ?_⟩
  · show w.heap.size ≤ ((putRowK enc k (Sort.ahead w m) blk off dk).heap ++ os).size
    rw [Array.size_append, hsz]; omega
  · show ((putRowK enc k (Sort.ahead w m) blk off dk).heap ++ os)[i]? = _
    rw [Array.getElem?_append_left (by rw [hsz]; omega)]
    exact mapBlock_other _ _ _ _ (by omega)
def Sorted (base : Nat) (w : World) (ms : List Sp) (A : Option Addr) (n : Nat) (e : Ending) (w' : World) : Prop :=
  e = .returned (.tuple #[]) ∧ ∃ ms', ms'.Perm ms ∧ RisingL ms' ∧ Rows 2 encS w' A n ms' ∧ Below base w w'
set_option maxHeartbeats 400000 in
theorem sort_any (base : Nat) (A : Option Addr) (n c : Nat) (ms : List Sp) (w : World) (t : TypeId) (hn : n ≤ 4000000000) (h : w.ownsRow base t 2 (.slice A n c) n (ms.flatMap encS)) :
    Calls Try.prog 46 #[.slice A n c, .func (.func 47) #[] #[]] w (Sorted base w ms A n) := by
  have hrows := ownsRow_rows (enc := encS) encS_len (by decide) h
  have hlen := hrows.len
  rcases Nat.eq_zero_or_pos n with rfl | hpos
  · have hcon := AnyF.slices_SortFunc_none sortSp A c (.func (.func 47) #[] #[]) w
    change Calls Try.prog 46 _ _ _ at hcon
    obtain rfl : ms = [] := List.eq_nil_of_length_eq_zero hlen
    refine hcon.mono ?_
    rintro e w' ⟨rfl, rfl⟩
    exact ⟨rfl, [], List.Perm.refl _, List.Pairwise.nil, Rows.nil _ _, Below.refl _ _⟩
  · obtain ⟨_, ⟨hv, h0⟩ | ⟨g, cap, cur, hv, hb, hg, h1, h2, h3, h4⟩⟩ := h
    · omega
    · injection hv with hA _ hc
      subst hA hc
      obtain ⟨b, off, eA, hbl, hcell⟩ := hrows.2.2 hpos
      simp only [Option.some.injEq, Addr.mk.injEq] at eA
      obtain ⟨eb, eo, _⟩ := eA
      subst eb eo
      have hget : ∀ i, i < ms.toArray.size → ms[i]? = some (ms.toArray[i]!) := by
        intro i hi
        have hi' : i < ms.length := by simpa using hi
        rw [List.getElem?_eq_getElem hi', getElem!_pos ms.toArray i hi]; simp
      have hH : HoldsK encS 2 w g 0 ms.toArray := by
        intro j ht
        rw [size_flatK] at ht
        have hi : j / 2 < ms.toArray.size := by omega
        have hx := hget (j / 2) hi
        have e1 : j / 2 * 2 + j % 2 = j := by omega
        constructor
        · rw [get_flatK _ _ _ _ ht]
          have hj : (encS ms.toArray[j / 2]!)[j % 2]? = some ((encS ms.toArray[j / 2]!)[j % 2]!) := by
            have : j % 2 < (encS ms.toArray[j / 2]!).length := by rw [encS_len]; omega
            rw [List.getElem?_eq_getElem this, getElem!_pos (encS ms.toArray[j / 2]!) (j % 2) this]
          have := hcell (j / 2) _ hx (j % 2) _ hj
          rw [show 0 + j / 2 * 2 + j % 2 = 0 + j by omega] at this
          exact this
        · unfold World.frozen?; simp [hg]
      have eg : ∀ args w, (callFunc 47 args).run Try.prog w = .ok (.enter 47 args) w := enters_of Try.func47 (by kernel_rfl) rfl
      have hcon := AnyQ.slices_SortFunc sortSp 2 isAggS sizeOfS encS encS_len (fun x v hv => by simp [encS] at hv; rcases hv with rfl | rfl <;> rfl) (fun x y : Sp => cmpI x.1 y.1) swoS 47 #[] g 0 c ms.toArray w eg (fun _ _ _ _ x y => closure_any x y _) hH hbl (by simp; omega)
      change Calls Try.prog 46 _ _ _ at hcon
      rw [show ms.toArray.size = n by simp [hlen]] at hcon
      refine hcon.mono ?_
      rintro e w' ⟨rfl, d', m, os, hp, hs, rfl⟩
      have hsz : d'.size = n := by rw [hp.1]; simp [hlen]
      have hH' := holdsK_sortWorldK_c encS 2 w g 0 ms.toArray d' m os hH hbl hp.1
      refine ⟨rfl, d'.toList, ?_, ?_, ?_, (below_sort encS 2 w g 0 m d' os hbl).mono hb⟩
      · have := hp.2.2
        rw [show (d'.extract 0 n).toList = d'.toList by simp [← hsz], show (ms.toArray.extract 0 n).toList = ms by simp [← hlen]] at this
        exact this
      · unfold RisingL
        rw [List.pairwise_iff_getElem]
        intro i j hi hj hij
        have hi' : i < d'.size := by simpa using hi
        have hj' : j < d'.size := by simpa using hj
        have := hs i j (Nat.zero_le _) hij (by omega)
        rw [ltS, getElem!_pos d' i hi', getElem!_pos d' j hj'] at this
        simp at this
        simpa using this
      · refine ⟨by simp [hsz], by omega, fun _ => ⟨g, 0, rfl, ?_, fun i x hx j v hv => ?_⟩⟩
        · have := (below_sort encS 2 w g 0 m d' os hbl).size; omega
        · have hi : i < d'.size := by have := (List.getElem?_eq_some_iff.1 hx).1; simpa using this
          have hj : j < 2 := (List.getElem?_eq_some_iff.1 hv).1
          have := (hH'.cell hi hj).1
          rw [this]
          have ex : d'[i]! = x := by
            rw [getElem!_pos d' i hi]
            have := (List.getElem?_eq_some_iff.1 hx).2
            simpa using this
          rw [ex, getElem!_pos (encS x) j (by rw [encS_len]; exact hj)]
          exact congrArg some ((List.getElem?_eq_some_iff.1 hv).2)
end Go.Proofs.Ytkbpiekmphcdnaa
