import Derived.RangeFuncBox
import Derived.RangeFuncNested
import Derived.RangeFuncBound
import Derived.RangeFuncCalls
import Derived.RangeFuncLeaves
import Derived.Shelf.Abstract
import Derived.Shelf.RegionOpen
import Derived.WalkKit
import Derived.OwnWalkIn
import Derived.TacticsInMore
import Derived.LoopNIn
import Derived.LoopIn
import Derived.BigRegionIn
import Derived.Test.YtakdopblggkfnaaWordsRef2
/- The program's package words: the range over the places behind words. -/
namespace Go.Proofs.Ytakdopblggkfnaa
open Go.RowKit Go.Shelf
set_option linter.unusedVariables false
set_option linter.unusedSimpArgs false
attribute [local go_sem] Oper.semAt_some
theorem wide_deep9 (k : Nat) : Fence.wide.depth.isSome = true → 1 ≤ k := fun h => by cases h
theorem cell_of9 {W : World} {b : Nat} {v : Value} {t : TypeId} (h : W.heap[b]? = some (.cells #[v] t)) : W.cell? ⟨b, 0, none⟩ = some v := by simp [World.cell?, h]
theorem boxed_kept9 {B k : Nat} {t : TypeId} {v : Value} {X Y : World} {row : Option Nat} (hs : Boxed X k t v) (hg : X.grownBy Y row) (hr : ∀ r, row = some r → B ≤ r ∧ ∃ o : Obj, X.heap[r]? = some o ∧ o.isCells = false) : Boxed Y k t v :=
  hs.kept hg (fun e' => by
    obtain ⟨_, o, ho, hc⟩ := hr k e'.symm
    rw [show X.heap[k]? = _ from hs] at ho; cases ho; cases hc)
theorem grown_of_below9 {w w' : World} (h : Below w.heap.size w w') (row : Option Nat) : w.grownBy w' row := ⟨h.os, h.tape, h.output, h.size, fun k hk _ => h.block k hk⟩
/-- how many words lie behind the place a. -/
def leftN (zs : List Int) (a : Int) : Nat := if 0 ≤ a ∧ a < (zs.length : Int) then zs.length - a.toNat else 0
/-- how wide the run is behind k words; a space less than none, ahead of the first. -/
def wideK (zs : List Int) (sp a : Int) : Nat → Int
  | 0 => -sp
  | k + 1 => wideN zs sp a.toNat (a.toNat + (k + 1))
/-- an element of the range: how many words ahead. -/
abbrev K9 := { k : Nat // k ≤ 1000 }
def enc9 (zs : List Int) (sp a : Int) (x : K9) : Array Value := #[.int .i64 (a + ((x.1 : Nat) : Int) + 1), .int .i64 (wideK zs sp a (x.1 + 1))]
theorem wideK_step {zs : List Int} {sp a : Int} {k : Nat} (h0 : 0 ≤ a) (h : a.toNat + k < zs.length) : wideK zs sp a (k + 1) = wideK zs sp a k + (sp + wordI zs (a.toNat + k)) := by
  cases k with
  | zero =>
    show wideN zs sp a.toNat (a.toNat + 1) = -sp + (sp + wordI zs (a.toNat + 0))
    rw [wideN_one (by omega), Nat.add_zero]; omega
  | succ k =>
    show wideN zs sp a.toNat (a.toNat + (k + 1 + 1)) = wideN zs sp a.toNat (a.toNat + (k + 1)) + (sp + wordI zs (a.toNat + (k + 1)))
    rw [show a.toNat + (k + 1 + 1) = a.toNat + (k + 1) + 1 by omega, wideN_step (by omega) (by omega)]; omega
theorem wideK_bd {zs : List Int} {sp : Int} (h : Near9 zs sp) (hl : zs.length ≤ 1000) (a : Int) (k : Nat) : -35184372088832 ≤ wideK zs sp a k ∧ wideK zs sp a k ≤ 2000 * 35184372088832 := by
  cases k with
  | zero =>
    have h1 := h.1
    unfold farN at h1
    show -35184372088832 ≤ -sp ∧ -sp ≤ 2000 * 35184372088832
    omega
  | succ k =>
    have h1 := wideN_bd h a.toNat (a.toNat + (k + 1))
    have h2 : 2 * (zs.length : Int) * farN ≤ 2000 * farN := Int.mul_le_mul_of_nonneg_right (by omega) (by unfold farN; omega)
    unfold farN at *
    show -35184372088832 ≤ wideN zs sp a.toNat (a.toNat + (k + 1)) ∧ wideN zs sp a.toNat (a.toNat + (k + 1)) ≤ 2000 * 35184372088832
    omega
/-- a world from which the range can read: its three boxes, and the words. -/
def Reads9 (zs : List Int) (sp a : Int) (A : Option Addr) (m c b : Nat) (V : World) : Prop := V.cell? ⟨b, 0, none⟩ = some (.slice A m c) ∧ V.cell? ⟨b + 1, 0, none⟩ = some (.int .i64 sp) ∧ V.cell? ⟨b + 2, 0, none⟩ = some (.int .i64 a) ∧ Ints V A m zs
set_option maxRecDepth 100000 in
set_option maxHeartbeats 4000000 in
theorem ends1_in (n l b : Nat) {zs : List Int} {sp a : Int} (hn : Near9 zs sp) {A : Option Addr} {m c : Nat} (hm : m ≤ 1000) (ha : I64w a) (hl : zs.length = m)
    (G : World → Prop) (Kp : World → World → Prop) (hG : ∀ V, G V → Reads9 zs sp a A m c b V) (hGd : ∀ V, G V → G V.drew) (hGK : ∀ X Y, G X → Kp X Y → G Y)
    (J Jx : List K9 → World → Prop) (W : World) (hW : G W) (hJ : AbidesFrom W.heap.size J)
    (hY : ∀ pre x W1, J pre W1 → pre.length < 1001 → YieldAt Fence.wide (n - 1) Try.prog l (enc9 zs sp a x) W1 fun e W' =>
      (e = .returned (.bool true) ∧ J (pre ++ [x]) W' ∧ Kp W1 W') ∨ (e = .returned (.bool false) ∧ Jx (pre ++ [x]) W'))
    (h0 : J [] W) :
    CallsIn Fence.wide n Try.prog 17 #[.func (.yield l) #[] #[], .pointer (some ⟨b + 2, 0, none⟩), .pointer (some ⟨b, 0, none⟩), .pointer (some ⟨b + 1, 0, none⟩)] W fun e W' => (∃ v, e = .returned v) ∧
      ((∃ xs : List K9, xs.map (·.1) = List.range (leftN zs a) ∧ J xs W') ∨ (∃ pre : List K9, (∃ q, q < leftN zs a ∧ pre.map (·.1) = List.range (q + 1)) ∧ Jx pre W')) := by
  have HG := Lib.hid hG
  have HGd := Lib.hid hGd
  have HGK := Lib.hid hGK
  have HY := Lib.hid hY
  have HJ := Lib.hid hJ
  have HL := Lib.hid hl
  have HN := Lib.hid hn
  obtain ⟨c0, c1, c2, _⟩ := hG W hW
  obtain ⟨ha1, ha2⟩ := ha
  obtain ⟨⟨sp0, sp1⟩, _⟩ := id hn
  unfold farN at sp1
  clear hG hGd hGK hY hJ hn hl
  refine callsIn_of_wp Try.func17 rfl trivial ?_ rfl
  simp only [Try.ntmps17, List.size_toArray, List.length_cons, List.length_nil, Nat.reduceAdd, Nat.reduceSub, Array.replicate_succ, Array.replicate_zero, List.push_toArray, List.append_toArray, List.nil_append, List.cons_append]
  by_cases h1 : a < 0
  · have HE := Lib.hid (show leftN zs a = 0 by unfold leftN; rw [if_neg (by omega)])
    gi_wp2
    refine bodyPost_ret (results_none rfl _ _ _) rfl ?_
    exact ⟨⟨_, rfl⟩, .inl ⟨[], by rw [HE.out]; rfl, h0⟩⟩
  by_cases h2 : (m : Int) ≤ a
  · have HE := Lib.hid (show leftN zs a = 0 by unfold leftN; rw [if_neg (by have := HL.out; omega)])
    gi_wp2
    refine bodyPost_ret (results_none rfl _ _ _) rfl ?_
    exact ⟨⟨_, rfl⟩, .inl ⟨[], by rw [HE.out]; rfl, h0⟩⟩
  obtain ⟨i, rfl⟩ : ∃ i : Nat, a = (i : Int) := ⟨a.toNat, by omega⟩
  have him : i < m := by omega
  have HE := Lib.hid (show leftN zs (i : Int) = m - i by unfold leftN; rw [if_pos (by have := HL.out; omega), Int.toNat_natCast, HL.out])
  have HJ0 := Lib.hid h0
  have HW := Lib.hid hW
  have hd0 : decide ((i : Int) < 0) = false := decide_eq_false (by omega)
  have hd1 : decide ((m : Int) ≤ (i : Int)) = false := decide_eq_false (by omega)
  have hd2 : decide (m ≤ i) = false := decide_eq_false (by omega)
  clear h0 hW h1 h2
  gi_wp2
  gi_loopw [5, 6] (fun t i' wr => ∃ (k : Nat) (z : Int) (pre : List K9), t = .int .i64 z ∧ i' = .int .i64 ((i + k + 1 : Nat) : Int) ∧ i + k ≤ m ∧ Hid (z = wideK zs sp (i : Int) k) ∧ Hid (pre.map (·.1) = List.range k) ∧ Hid (J pre wr) ∧ Hid (G wr)) (fun _ i' _ => m + 1 - (intOf i').toNat)
  case atStart => exact ⟨0, _, [], rfl, by go_num, by omega, Lib.hid (by show _ = -sp; go_num), Lib.hid rfl, HJ0, HW⟩
  case round =>
    obtain ⟨k, z, pre, rfl, rfl, hkm, HZ, HP, HJp, HO⟩ := hrel
    obtain ⟨c0, c1, c2, hints⟩ := HG.out wr HO.out
    have HI := Lib.hid hints
    have hzb := wideK_bd HN.out (by rw [HL.out]; omega) (i : Int) k
    rw [← HZ.out] at hzb
    obtain ⟨hz0, hz1⟩ := hzb
    clear hints
    by_cases hlt : i + k < m
    · have hlt2 : ((i + k + 1 : Nat) : Int) ≤ (m : Int) := by omega
      obtain ⟨b', off, rfl, hc⟩ := HI.out.at_ (show i + k < m by omega)
      obtain ⟨u, hu⟩ : ∃ u, zs[i + k]?.getD 0 = u := ⟨_, rfl⟩
      rw [hu] at hc
      have hub := word_bd HN.out (i + k)
      unfold wordI at hub
      rw [hu] at hub
      obtain ⟨hu0, hu1⟩ := hub
      unfold farN at hu1
      have HZ2 := Lib.hid (show z + (sp + u) = wideK zs sp (i : Int) (k + 1) by rw [wideK_step (by omega) (by rw [HL.out]; omega), HZ.out, Int.toNat_natCast]; unfold wordI; rw [hu])
      have hlen : pre.length < 1001 := by
        have h1 := congrArg List.length HP.out
        rw [List.length_map, List.length_range] at h1; omega
      obtain ⟨kx, hkx⟩ : ∃ x : K9, x.1 = k := ⟨⟨k, by omega⟩, rfl⟩
      have hbd : Below wr.heap.size wr wr.drew := Below.drew (Below.refl _ _)
      have HOd := Lib.hid (HGd.out wr HO.out)
      obtain ⟨fn, tmps, assign, body, hy, hR⟩ := HY.out pre kx wr.drew (HJ.out pre wr wr.drew none HJp.out (grown_of_below9 hbd none) (fun r e => by cases e)) hlen
      have henc : enc9 zs sp (i : Int) kx = #[.int .i64 ((i : Int) + (k : Int) + 1), .int .i64 (z + (sp + u))] := by
        unfold enc9; rw [hkx, ← HZ2.out]
      rw [henc] at hy
      have HP2 := Lib.hid (show (pre ++ [kx]).map (·.1) = List.range (k + 1) by rw [List.map_append, HP.out, List.range_succ]; simp [hkx])
      clear hu hkx hlen hbd
      gi_wp2_with (fail)
      gi_region
      gi_wp2_with (fail)
      refine ⟨wide_deep9 _, ?_⟩
      refine hR.mono ?_
      rintro e W3 (⟨rfl, hJ4, hk4⟩ | ⟨rfl, hx4⟩)
      · have HJ4 := Lib.hid hJ4
        have HO4 := Lib.hid (HGK.out _ _ HOd.out hk4)
        clear hJ4 hk4 hy hR c0 c1 c2 hc
        gi_wp2_with (fail)
        go_roundw
        case rel => exact ⟨k + 1, z + (sp + u), pre ++ [kx], rfl, by go_num, by omega, HZ2, HP2, HJ4, HO4⟩
        case measure => simp [intOf] <;> omega
      · gi_wp2
        refine bodyPost_ret (results_none rfl _ _ _) rfl ?_
        exact ⟨⟨_, rfl⟩, .inr ⟨pre ++ [kx], ⟨k, by rw [HE.out]; omega, HP2.out⟩, hx4⟩⟩
    · have hge : (m : Int) < ((i + k + 1 : Nat) : Int) := by omega
      gi_wp2
      go_end0
      exact ⟨⟨_, rfl⟩, .inl ⟨pre, by rw [HP.out, HE.out, show k = m - i by omega], HJp.out⟩⟩
/-- the range, as its callers take it. -/
theorem ends_stops (b : Nat) (w0 : World) {zs : List Int} {sp a : Int} (hn : Near9 zs sp) {A : Option Addr} {m c : Nat} (hm : m ≤ 1000) (ha : I64w a) (hl : zs.length = m)
    (G : World → Prop) (Kp : World → World → Prop) (hG : ∀ V, G V → Reads9 zs sp a A m c b V) (hGd : ∀ V, G V → G V.drew) (hGK : ∀ X Y, G X → Kp X Y → G Y) (hG0 : ∀ V, On w0 V → G V) (n : Nat) :
    SeqStopsK Fence.wide n Try.prog 17 #[.pointer (some ⟨b + 2, 0, none⟩), .pointer (some ⟨b, 0, none⟩), .pointer (some ⟨b + 1, 0, none⟩)] (enc9 zs sp a) Kp (fun xs => xs.map (·.1) = List.range (leftN zs a)) (fun pre => ∃ q, q < leftN zs a ∧ pre.map (·.1) = List.range (q + 1)) 1001 w0 :=
  fun l J Jx W hW hJ hJx hY h0 => ends1_in n l b hn hm ha hl G Kp hG hGd hGK J Jx W (hG0 W hW) hJ hY h0
theorem ends_in (A : Option Addr) (m c : Nat) (sp a : Int) (w : World) : Calls Try.prog 16 #[.slice A m c, .int .i64 sp, .int .i64 a] w fun e w' => e = .returned (.func (.func 17) #[] #[.pointer (some ⟨w.heap.size + 2, 0, none⟩), .pointer (some ⟨w.heap.size, 0, none⟩), .pointer (some ⟨w.heap.size + 1, 0, none⟩)]) ∧ w' = ((w.alloc (.cells #[.slice A m c] 22)).alloc (.cells #[.int .i64 sp] 3)).alloc (.cells #[.int .i64 a] 3) := by
  go_enter Try.func16, Try.ntmps16
  go_wp2_with fail
  go_ret
  exact ⟨rfl, rfl⟩
theorem three_boxes (w : World) (u v x : Value) (t1 t2 t3 : TypeId) (V : World) (hV : V = ((w.alloc (.cells #[u] t1)).alloc (.cells #[v] t2)).alloc (.cells #[x] t3)) : V.heap[w.heap.size]? = some (.cells #[u] t1) ∧ V.heap[w.heap.size + 1]? = some (.cells #[v] t2) ∧ V.heap[w.heap.size + 2]? = some (.cells #[x] t3) ∧ On w V ∧ V.heap.size = w.heap.size + 3 := by
  subst hV
  refine ⟨(Below.heap_alloc _ _ _ (by simp; omega)).trans ((Below.heap_alloc _ _ _ (by simp)).trans (World.alloc_heap_new w _)), (Below.heap_alloc _ _ _ (by simp)).trans ?_, ?_, (((Below.refl _ w).alloc (Nat.le_refl _) _).alloc (by simp) _).alloc (by simp; omega) _, by simp⟩
  · have := World.alloc_heap_new (w.alloc (.cells #[u] t1)) (.cells #[v] t2)
    rwa [World.size_alloc] at this
  · have := World.alloc_heap_new ((w.alloc (.cells #[u] t1)).alloc (.cells #[v] t2)) (.cells #[x] t3)
    rwa [World.size_alloc, World.size_alloc] at this
end Go.Proofs.Ytakdopblggkfnaa
