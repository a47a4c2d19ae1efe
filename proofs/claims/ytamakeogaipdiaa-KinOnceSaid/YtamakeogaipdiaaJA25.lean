import Derived.RangeFuncBox
import Derived.RangeFuncNested
import Derived.RangeFuncBound
import Derived.RangeFuncCalls
import Derived.RangeFuncLeaves
import Derived.Shelf.Abstract
import Derived.Shelf.RegionOpen
import Derived.WalkKit
import Derived.OwnWalkIn
import Derived.TacticsInMore
import Derived.LoopNIn
import Derived.LoopIn
import Derived.Test.YtamakeogaipdiaaJA23
import Derived.Test.YtamakeogaipdiaaJA03
/- The program's package kin: slices.Values over places, the iterator over the blocks above a node, the closures that tell of a block. -/
namespace Go.Proofs.Ytamakeogaipdiaa
open Go.RowKit Go.Shelf
set_option linter.unusedVariables false
set_option linter.unusedSimpArgs false
attribute [local go_sem] Oper.semAt_some
/-- a place among so many. -/
abbrev K16 (N : Nat) := { k : Nat // k < N }
def valI {N : Nat} (ys : List (K16 N)) : List Int := ys.map fun x => ((x.1 : Nat) : Int)
theorem k16_of {N : Nat} : ∀ {l : List Nat}, (∀ b ∈ l, b < N) → ∃ ys : List (K16 N), ys.map (·.1) = l
  | [], _ => ⟨[], rfl⟩
  | b :: l, h => by
    obtain ⟨ys, hy⟩ := k16_of (l := l) (fun c hc => h c (List.mem_cons_of_mem _ hc))
    exact ⟨⟨b, h b (List.mem_cons_self ..)⟩ :: ys, by rw [List.map_cons, hy]⟩
/-- a world from which the range can read: its box, and the row. -/
def Reads16 {N : Nat} (ys : List (K16 N)) (A : Option Addr) (m c b : Nat) (V : World) : Prop := V.cell? ⟨b, 0, none⟩ = some (.slice A m c) ∧ Ints V A m (valI ys)
set_option maxRecDepth 100000 in
set_option maxHeartbeats 4000000 in
theorem values1_in {N : Nat} (n l b : Nat) {ys : List (K16 N)} {A : Option Addr} {m c : Nat} (hm : m ≤ 100000)
    (G : World → Prop) (Kp : World → World → Prop) (hG : ∀ V, G V → Reads16 ys A m c b V) (hGK : ∀ X Y, G X → Kp X Y → G Y)
    (J Jx : List (K16 N) → World → Prop) (W : World) (hW : G W) (hJ : AbidesFrom W.heap.size J)
    (hY : ∀ pre x W1, J pre W1 → pre.length < 100001 → YieldAt Fence.wide (n - 1) Try.prog l #[.int .i64 ((x.1 : Nat) : Int)] W1 fun e W' =>
      (e = .returned (.bool true) ∧ J (pre ++ [x]) W' ∧ Kp W1 W') ∨ (e = .returned (.bool false) ∧ Jx (pre ++ [x]) W'))
    (h0 : J [] W) :
    CallsIn Fence.wide n Try.prog 75 #[.func (.yield l) #[] #[], .pointer (some ⟨b, 0, none⟩)] W fun e W' => (∃ v, e = .returned v) ∧
      ((∃ xs : List (K16 N), xs = ys ∧ J xs W') ∨ (∃ pre : List (K16 N), pre <+: ys ∧ Jx pre W')) := by
  have HG := Lib.hid hG
  have HGK := Lib.hid hGK
  have HY := Lib.hid hY
  have HL := Lib.hid (show ys.length = m by have := (hG W hW).2.1; simpa [valI] using this)
  obtain ⟨c0, _⟩ := hG W hW
  have HW := Lib.hid hW
  have HJ0 := Lib.hid h0
  clear hG hGK hY hJ hW h0
  refine callsIn_of_wp Try.func75 rfl trivial ?_ rfl
  simp only [Try.ntmps75, List.size_toArray, List.length_cons, List.length_nil, Nat.reduceAdd, Nat.reduceSub, Array.replicate_succ, Array.replicate_zero, List.push_toArray, List.append_toArray, List.nil_append, List.cons_append]
  gi_wp2
  gi_loopw [4, 7] (fun v i wr => ∃ k : Nat, i = .int .i64 (k : Int) ∧ k ≤ m ∧ Hid (J (ys.take k) wr) ∧ Hid (G wr)) (fun _ i _ => m - (intOf i).toNat)
  case atStart => exact ⟨0, rfl, Nat.zero_le _, HJ0, HW⟩
  case round =>
    obtain ⟨k, rfl, hkm, HJk, HO⟩ := hrel
    by_cases hlt : k < m
    · have hlt2 : (k : Int) < (m : Int) := by omega
      have hk0 : (0 : Int) ≤ (k : Int) := by omega
      have hwk : IntKind.i64.wrap ((k : Int) + 1) = (k : Int) + 1 := IntWalk.i64_in _ (by omega)
      obtain ⟨q0, hints⟩ := HG.out wr HO.out
      obtain ⟨b1, o1, rfl, c9⟩ := hints.at_ hlt
      obtain ⟨x, hy⟩ : ∃ x, ys[k]? = some x := ⟨_, List.getElem?_eq_getElem (by have := HL.out; omega)⟩
      have c1 : wr.cell? ⟨b1, o1 + k, none⟩ = some (.int .i64 ((x.1 : Nat) : Int)) := by
        rw [c9]; unfold valI; rw [List.getElem?_map, hy]; rfl
      clear c9
      have hlen : (ys.take k).length < 100001 := by rw [List.length_take]; omega
      obtain ⟨z, hz⟩ : ∃ z : Int, ((x.1 : Nat) : Int) = z := ⟨_, rfl⟩
      obtain ⟨fn, tmps, assign, body, hy2, hR⟩ := HY.out (ys.take k) x wr HJk.out hlen
      have HT := Lib.hid (show ys.take k ++ [x] = ys.take (k + 1) by rw [List.take_add_one, hy]; rfl)
      rw [hz] at c1 hy2
      clear hlen hy hints q0 hz
      gi_wp2
      refine ⟨wide_deep _, ?_⟩
      refine hR.mono ?_
      rintro e W3 (⟨rfl, hJ4, hk4⟩ | ⟨rfl, hx4⟩)
      · have HJ4 := Lib.hid (show J (ys.take (k + 1)) W3 by rw [← HT.out]; exact hJ4)
        have HO4 := Lib.hid (HGK.out _ _ HO.out hk4)
        clear hJ4 hk4 hy2 hR c1
        gi_wp2
        go_roundw
        case rel => exact ⟨k + 1, by go_num, by omega, HJ4, HO4⟩
        case measure => simp [intOf] <;> omega
      · gi_wp2
        refine bodyPost_ret (results_none rfl _ _ _) rfl ?_
        exact ⟨⟨_, rfl⟩, .inr ⟨ys.take k ++ [x], by rw [HT.out]; exact List.take_prefix _ _, hx4⟩⟩
    · obtain rfl : k = m := by omega
      have hle : (k : Int) ≤ (k : Int) := Int.le_refl _
      have HE := Lib.hid (show ys.take k = ys from List.take_of_length_le (by have := HL.out; omega))
      gi_wp2
      go_end0
      exact ⟨⟨_, rfl⟩, .inl ⟨ys.take k, HE.out, HJk.out⟩⟩
/-- the range, as its callers take it. -/
theorem values_stops {N : Nat} (b : Nat) (w0 : World) {ys : List (K16 N)} {A : Option Addr} {m c : Nat} (hm : m ≤ 100000)
    (G : World → Prop) (Kp : World → World → Prop) (hG : ∀ V, G V → Reads16 ys A m c b V) (hGK : ∀ X Y, G X → Kp X Y → G Y) (hG0 : ∀ V, On w0 V → G V) (n : Nat) :
    SeqStopsK Fence.wide n Try.prog 75 #[.pointer (some ⟨b, 0, none⟩)] (fun x : K16 N => #[Value.int .i64 ((x.1 : Nat) : Int)]) Kp (fun xs => xs = ys) (fun pre => pre <+: ys) 100001 w0 :=
  fun l J Jx W hW hJ hJx hY h0 => values1_in n l b hm G Kp hG hGK J Jx W (hG0 W hW) hJ hY h0
theorem values_in (A : Option Addr) (m c : Nat) (w : World) : Calls Try.prog 60 #[.slice A m c] w fun e w' => e = .returned (.func (.func 75) #[] #[.pointer (some ⟨w.heap.size, 0, none⟩)]) ∧ w' = w.alloc (.cells #[.slice A m c] 23) := by
  go_enter Try.func60, Try.ntmps60
  go_wp2_with fail
  go_ret
  exact ⟨rfl, rfl⟩
/-- an iterator over a row of places: its box lies at b. -/
def IterOut (w : World) (zs : List Int) (e : Ending) (w' : World) : Prop := ∃ b A m c, e = .returned (.func (.func 75) #[] #[.pointer (some ⟨b, 0, none⟩)]) ∧ w.heap.size ≤ b ∧ w'.heap[b]? = some (.cells #[.slice A m c] 23) ∧ w'.ownsRow w.heap.size 3 1 (.slice A m c) m (zs.map (Value.int .i64)) ∧ On w w'
set_option maxHeartbeats 1000000 in
theorem kabove_to {L : List Nd} {a : Int} {A : Option Addr} {n c : Nat} {w : World} (h : PreV L w A n) : Calls Try.prog 45 #[.slice A n c, .int .i64 a] w (IterOut w (aboveI (ordL L) a)) := by
  have H := Lib.hid h
  clear h
  go_enter Try.func45, Try.ntmps45
  go_wp2_with fail
  refine (tAbove_to H.out).mono ?_
  rintro e w1 ho
  obtain ⟨A1, n1, c1, rfl, hi, hb⟩ := ho
  have HI := Lib.hid hi
  have HB := Lib.hid hb
  clear hi hb
  go_wp2_with fail
  refine (values_in _ _ _ _).mono ?_
  rintro e w2 ⟨rfl, hw2⟩
  have HW2 := Lib.hid hw2
  clear hw2
  go_wp2_with fail
  go_ret
  have hal : On w1 w2 := by rw [HW2.out]; exact On.alloc (On.refl w1) _
  exact ⟨w1.heap.size, A1, n1, c1, rfl, HB.out.size, by rw [HW2.out]; exact World.alloc_heap_new w1 _, owns_below HI.out hal, below_then HB.out hal⟩
/-- what the closures of At read: the row, and the place. -/
def Clo16 (V : World) (A : Option Addr) (n c : Nat) (B : Option Addr) (m d : Nat) (k : Int) (p q : Nat) : Prop := Box V p [.slice A n c, .slice B m d] ∧ Box V q [.int .i64 k]
theorem Clo16.on {V V' : World} {A : Option Addr} {n c : Nat} {B : Option Addr} {m d : Nat} {k : Int} {p q : Nat} (h : Clo16 V A n c B m d k p q) (hb : On V V') : Clo16 V' A n c B m d k p q := ⟨h.1.below hb, h.2.below hb⟩
section
variable {L : List Nd} {of : List Int} {A B : Option Addr} {n c m d p q : Nat} {k : Int} {V : World}
set_option maxHeartbeats 1000000 in
theorem kahead_to (h : KinOk L of) {b : Nat} {v : Bool} (hv : holdA L of b (k - 1) = v) (hS : Sees V A n L) (hI : Ints V B m of) (hn : n ≤ 100000) (hm : m ≤ 1000000) (hb : b < L.length) (hk : 0 ≤ k ∧ k ≤ (m : Int)) (hc : Clo16 V A n c B m d k p q) :
    Calls Try.prog 24 #[.int .i64 (b : Int), .pointer (some ⟨p, 0, none⟩), .pointer (some ⟨q, 0, none⟩)] V fun e w' => e = .returned (.bool v) ∧ Below V.heap.size V w' := by
  obtain ⟨q0, q1, _, _, _⟩ := hc.1.of2
  obtain ⟨q2, _, _⟩ := hc.2.of1
  have hwk : IntKind.i64.wrap (k - 1) = k - 1 := IntWalk.i64_in _ (by omega)
  have HC := Lib.hid (kholds_to (c := c) (d := d) h hv hS hI hn hb)
  clear hS hI h hv hc
  go_enter Try.func24, Try.ntmps24
  go_wp2_with fail
  refine HC.out.mono ?_
  rintro e w1 ⟨rfl, hb⟩
  have HB := Lib.hid hb
  clear hb q0 q1 q2
  go_wp2_with fail
  go_ret
  exact ⟨rfl, HB.out⟩
set_option maxHeartbeats 1000000 in
theorem kbehind_to (h : KinOk L of) {b : Nat} {v : Bool} (hv : holdA L of b k = v) (hS : Sees V A n L) (hI : Ints V B m of) (hn : n ≤ 100000) (hb : b < L.length) (hc : Clo16 V A n c B m d k p q) :
    Calls Try.prog 26 #[.int .i64 (b : Int), .pointer (some ⟨p, 0, none⟩), .pointer (some ⟨q, 0, none⟩)] V fun e w' => e = .returned (.bool v) ∧ Below V.heap.size V w' := by
  obtain ⟨q0, q1, _, _, _⟩ := hc.1.of2
  obtain ⟨q2, _, _⟩ := hc.2.of1
  have HC := Lib.hid (kholds_to (c := c) (d := d) h hv hS hI hn hb)
  clear hS hI h hv hc
  go_enter Try.func26, Try.ntmps26
  go_wp2_with fail
  refine HC.out.mono ?_
  rintro e w1 ⟨rfl, hb⟩
  have HB := Lib.hid hb
  clear hb q0 q1 q2
  go_wp2_with fail
  go_ret
  exact ⟨rfl, HB.out⟩
set_option maxHeartbeats 1000000 in
theorem knota_to {r : Nat} (h : KinOk L of) {b : Nat} {v : Bool} (hv : holdA L of b (k - 1) = v) (hS : Sees V A n L) (hI : Ints V B m of) (hn : n ≤ 100000) (hm : m ≤ 1000000) (hb : b < L.length) (hk : 0 ≤ k ∧ k ≤ (m : Int)) (hc : Clo16 V A n c B m d k p q)
    (hr : Box V r [.func (.func 24) #[] #[.pointer (some ⟨p, 0, none⟩), .pointer (some ⟨q, 0, none⟩)]]) :
    Calls Try.prog 46 #[.int .i64 (b : Int), .pointer (some ⟨r, 0, none⟩)] V fun e w' => e = .returned (.bool (!v)) ∧ Below V.heap.size V w' := by
  obtain ⟨q0, _, _⟩ := hr.of1
  have HC := Lib.hid (kahead_to h hv hS hI hn hm hb hk hc)
  clear hS hI h hv hc hr
  go_enter Try.func46, Try.ntmps46
  go_wp2_with fail
  refine HC.out.mono ?_
  rintro e w1 ⟨rfl, hb⟩
  have HB := Lib.hid hb
  clear hb q0
  go_wp2_with fail
  go_ret
  exact ⟨rfl, HB.out⟩
set_option maxHeartbeats 1000000 in
theorem knotb_to {r : Nat} (h : KinOk L of) {b : Nat} {v : Bool} (hv : holdA L of b k = v) (hS : Sees V A n L) (hI : Ints V B m of) (hn : n ≤ 100000) (hb : b < L.length) (hc : Clo16 V A n c B m d k p q)
    (hr : Box V r [.func (.func 26) #[] #[.pointer (some ⟨p, 0, none⟩), .pointer (some ⟨q, 0, none⟩)]]) :
    Calls Try.prog 46 #[.int .i64 (b : Int), .pointer (some ⟨r, 0, none⟩)] V fun e w' => e = .returned (.bool (!v)) ∧ Below V.heap.size V w' := by
  obtain ⟨q0, _, _⟩ := hr.of1
  have HC := Lib.hid (kbehind_to h hv hS hI hn hb hc)
  clear hS hI h hv hc hr
  go_enter Try.func46, Try.ntmps46
  go_wp2_with fail
  refine HC.out.mono ?_
  rintro e w1 ⟨rfl, hb⟩
  have HB := Lib.hid hb
  clear hb q0
  go_wp2_with fail
  go_ret
  exact ⟨rfl, HB.out⟩
end
theorem knot_to (f : Value) (hf : f.oneCell' = true) (w : World) : Calls Try.prog 28 #[f] w fun e w' => e = .returned (.func (.func 46) #[] #[.pointer (some ⟨w.heap.size, 0, none⟩)]) ∧ w' = w.alloc (.cells #[f] 55) := by
  go_enter Try.func28, Try.ntmps28
  go_wp2_with fail
  go_ret
  exact ⟨rfl, rfl⟩
end Go.Proofs.Ytamakeogaipdiaa
