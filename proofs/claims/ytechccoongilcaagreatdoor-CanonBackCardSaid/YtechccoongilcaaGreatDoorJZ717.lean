import Derived.Test.YtechccoongilcaaGreatDoorJZ703
import Derived.Test.YtechccoongilcaaGreatDoorJZ709
import Derived.Test.YtechccoongilcaaGreatDoorJZ700
import Derived.Shelf.Strconv.Itoa3
import Derived.Lib.AppendIntMem
import Derived.Test.YtechccoongilcaaGreatDoorJZ710
import Derived.Test.YtechccoongilcaaGreatDoorJZ711
import Derived.Test.YtechccoongilcaaGreatDoorJZ701
import Derived.Test.YtechccoongilcaaGreatDoorJZ712
import Derived.Test.YtechccoongilcaaGreatDoorJZ713
import Derived.Deep.MidRow
import Derived.BigQuiet
import Derived.Test.YtechccoongilcaaGreatDoorJZ714
import Derived.Deep.LoopGhost
import Derived.BigRegion
import Derived.Deep.QuietTactic
/- strconv.Itoa, and a text's bytes. -/
namespace Go.Proofs.YtechccoongilcaaGreatDoor
open Go.RowKit
set_option linter.unusedVariables false
set_option linter.unusedSimpArgs false
def u8L (L : List Int) : List UInt8 := L.map fun d => UInt8.ofNat d.toNat
def uL (ps : List Pc) : List UInt8 := u8L (textOf ps)
theorem u8L_append (a b : List Int) : u8L (a ++ b) = u8L a ++ u8L b := List.map_append
theorem uL_append (a b : List Pc) : uL (a ++ b) = uL a ++ uL b := by unfold uL; rw [textOf_append, u8L_append]
theorem uL_nil : uL [] = [] := rfl
theorem uL_len (ps : List Pc) : (uL ps).length = (textOf ps).length := by unfold uL u8L; simp
theorem pcS_uL (ps : List Pc) : pcS ps = ⟨(uL ps).toArray⟩ := rfl
theorem digS_u8 (n : Nat) : digS n = ⟨(u8L (digitsL n)).toArray⟩ := rfl
theorem uL_n (n : Nat) : uL [.n n] = u8L (digitsL n) := by unfold uL textOf; simp [Pc.bytes]
theorem uL_s (c : Nat) : uL [.s (c : Int)] = [UInt8.ofNat c] := by unfold uL textOf u8L; simp [Pc.bytes]
theorem uL_b (c : Nat) : uL [.b (c : Int)] = [UInt8.ofNat c] := by unfold uL textOf u8L; simp [Pc.bytes]
theorem dec_digits : ∀ (n : Nat), Lib.decDigits n = u8L (digitsL n) := by
  intro n
  induction n using Nat.strongRecOn with
  | _ n ih =>
    rw [Lib.decDigits, digitsL]
    split
    · show _ = [UInt8.ofNat (48 + (n : Int)).toNat]
      rw [show (48 + (n : Int)).toNat = 48 + n by omega]
    · rw [ih (n / 10) (by omega), u8L_append]
      show _ = _ ++ [UInt8.ofNat (48 + ((n % 10 : Nat) : Int)).toNat]
      rw [show (48 + ((n % 10 : Nat) : Int)).toNat = 48 + n % 10 by omega]
theorem itoa_digS (n : Nat) : (⟨(Lib.itoa (n : Int)).toArray⟩ : ByteArray) = digS n := by
  unfold Lib.itoa
  rw [if_neg (by omega), Int.toNat_natCast, dec_digits, digS_u8]
/-- the library's table of powers reads as it is laid, whatever is done from block B on. -/
def TabP (B : Nat) (w : World) : Prop := Lib.TabBelow Tryz.prog B w "internal/strconv.uint64pow10" .u64 Lib.pow10Tab
theorem TabP.on {B : Nat} {w w' : World} (h : TabP B w) (hb : Below B w w') : TabP B w' := Lib.TabBelow.on h hb
theorem TabP.up {B B' : Nat} {w : World} (h : TabP B w) (hB : B ≤ B') : TabP B' w := fun w' hb => h w' (hb.mono hB)
theorem itoa_at {B : Nat} {w : World} (hT : TabP B w) (n : Nat) (h : n ≤ 1099511627776) : Calls Tryz.prog 84 #[.int .i64 (n : Int)] w fun e w' => e = .returned (.string (digS n)) ∧ Below w.heap.size w w' := by
  refine (Any.strconv_Itoa itoaLays (n : Int) (by omega) (by omega) w (Lib.TabBelow.here hT)).mono ?_
  rintro e w' ⟨rfl, k, os, rfl⟩
  exact ⟨by rw [itoa_digS], Lib.below_grow _ _ (Nat.le_refl _) k os⟩
theorem itoa_on {B : Nat} {W : World} (hT : TabP B W) (hB : B ≤ W.heap.size) (p : OnW W) {z : Int} (h0 : 0 ≤ z) (h : z ≤ 1099511627776) : Calls Tryz.prog 84 #[.int .i64 z] p.w fun e w' => e = .returned (.string (digS z.toNat)) ∧ Below p.w.heap.size p.w w' := by
  have := itoa_at (hT.on (p.h.mono hB)) z.toNat (by omega)
  rw [show ((z.toNat : Nat) : Int) = z by omega] at this
  exact this
/-- a writer that is written on: its bytes; the table; where its memory begins. -/
def Pen (B b : Nat) (l : List UInt8) (w : World) : Prop := Wr B b l w ∧ TabP B w ∧ B ≤ w.heap.size
theorem Pen.kept {B b : Nat} {l l' : List UInt8} {w w' : World} (h : Pen B b l w) (hw : Wr B b l' w') (hk : Kept B b w w') : Pen B b l' w' := ⟨hw, h.2.1.on hk.1, Nat.le_trans h.2.2 hk.size⟩
theorem Pen.below {B b : Nat} {l : List UInt8} {v w : World} (h : Pen B b l v) (hb : Below v.heap.size v w) : Pen B b l w := ⟨h.1.below hb, h.2.1.on (hb.mono h.2.2), Nat.le_trans h.2.2 hb.size⟩
/-- what a method that writes the pieces ps leaves. -/
def Wrote (B b : Nat) (l : List UInt8) (ps : List Pc) (w w' : World) : Prop := Pen B b (l ++ uL ps) w' ∧ Kept B b w w'
theorem Wrote.trans {B b : Nat} {l : List UInt8} {ps qs : List Pc} {u v w : World} (h : Wrote B b l ps u v) (k : Wrote B b (l ++ uL ps) qs v w) : Wrote B b l (ps ++ qs) u w :=
  ⟨by rw [uL_append, ← List.append_assoc]; exact k.1, h.2.trans k.2⟩
theorem Wrote.nil {B b : Nat} {l : List UInt8} {w : World} (h : Pen B b l w) : Wrote B b l [] w w := ⟨by rw [uL_nil, List.append_nil]; exact h, Kept.refl _ _ _⟩
/-- .. of a world that is behind another one by new memory alone. -/
theorem Wrote.ahead {B b : Nat} {l : List UInt8} {ps : List Pc} {u v w : World} (hB : B ≤ u.heap.size) (hb : Below u.heap.size u v) (h : Wrote B b l ps v w) : Wrote B b l ps u w := ⟨h.1, ((Kept.refl B b u).below hB hb).trans h.2⟩
theorem Wrote.behind {B b : Nat} {l : List UInt8} {ps : List Pc} {u v w : World} (h : Wrote B b l ps u v) (hb : Below v.heap.size v w) : Wrote B b l ps u w := ⟨h.1.below hb, h.2.below h.1.2.2 hb⟩
/-- room for so many more bytes. -/
def Room (l : List UInt8) (k : Nat) : Prop := l.length + k ≤ 140737488355328
theorem Room.less {l : List UInt8} {j k : Nat} (h : Room l k) (hj : j ≤ k) : Room l j := by unfold Room at *; omega
theorem Room.on {l : List UInt8} {ps : List Pc} {k : Nat} (h : Room l ((textOf ps).length + k)) : Room (l ++ uL ps) k := by unfold Room at *; rw [List.length_append, uL_len]; omega
theorem pen_byte (c : Nat) (p : Pc) (hp : p.bytes = [(c : Int)]) (hc : c < 256) {B b : Nat} {l : List UInt8} {w : World} (h : Pen B b l w) (hr : Room l 1) :
    Calls Tryz.prog 30 #[.pointer (some ⟨b, 0, none⟩), .int .u8 (c : Int)] w fun e w' => e = .returned .nilIface ∧ Wrote B b l [p] w w' := by
  refine (wr_byte B b l c w h.1 hc hr h.2.2).mono ?_
  rintro e w' ⟨he, hw, hk⟩
  have hu : uL [p] = [UInt8.ofNat c] := by unfold uL textOf u8L; simp [hp]
  exact ⟨he, by rw [hu]; exact h.kept hw hk, hk⟩
end Go.Proofs.YtechccoongilcaaGreatDoor
/- The program's package lex: Of and Text, each by its contract (lexof_any, lextext_any). -/
namespace Go.Proofs.YtechccoongilcaaGreatDoor
end Go.Proofs.YtechccoongilcaaGreatDoor
/- The program's package read: rows of nodes compared. (Written by program: tools/drafts/geneqrow.py.) -/
namespace Go.Proofs.YtechccoongilcaaGreatDoor
open Go.RowKit
set_option linter.unusedVariables false
set_option linter.unusedSimpArgs false
theorem encM_all' (m : NdM) : ((encM m).toArray.all (·.oneCell')) = true := by
  rw [List.all_toArray]
  exact List.all_eq_true.2 (encM_one m)
theorem pnode_to {m1 m2 : NdM} {x1 x2 : Nd} {v : Bool} (hv : ndB x1 x2 = v) (w : World) (h1 : Shows w m1 x1) (h2 : Shows w m2 x2) : Calls Tryz.prog 26 #[.agg (encM m1).toArray, .agg (encM m2).toArray] w fun e w' => e = .returned (.bool v) ∧ Below w.heap.size w w' := by
  subst hv; exact pnode_any m1 m2 x1 x2 w h1 h2
set_option maxHeartbeats 4000000 in
set_option maxRecDepth 100000 in
theorem peqfunc_any (a b : List Nd) (A B : Option Addr) (n m ca cb : Nat) (w : World) (ha : Sees w A n a) (hb : Sees w B m b) : Calls Tryz.prog 25 #[.slice A n ca, .slice B m cb, .func (.func 26) #[] #[]] w fun e w' => e = .returned (.bool (ndsB a b)) ∧ Below w.heap.size w w' := by
  have hn := ha.bound
  have hm := hb.bound
  have hla := ha.len
  have hlb := hb.len
  by_cases hnm : n = m
  rotate_left
  · have HV := Lib.hid (ndsB_len (a := a) (b := b) (by omega))
    have h1 : ((n : Int) != (m : Int)) = true := by simp; omega
    clear ha hb hla hlb
    go_enter Tryz.func25, Tryz.ntmps25
    go_wp2_with fail
    go_ret
    exact ⟨ret_bool (by rw [HV.out]), Below.refl _ _⟩
  subst hnm
  have HA := Lib.hid ha
  have HB := Lib.hid hb
  have h1 : ((n : Int) != (n : Int)) = false := by simp
  clear ha hb
  go_enter Tryz.func25, Tryz.ntmps25
  go_wp2_with fail
  go_loopw [17] (fun i wr => ∃ k : Nat, k ≤ n ∧ i = .int .i64 k ∧ (∀ j, j < k → a[j]? = b[j]?) ∧ On w wr) (fun i _ => n - (intOf i).toNat)
  case atStart => exact ⟨0, by omega, rfl, fun j hj => by omega, On.refl w⟩
  case round =>
    obtain ⟨k, hk, rfl, hall, hon⟩ := hrel
    have HL := Lib.hid hall
    have HO := Lib.hid hon
    clear hall hon
    by_cases hlt : k < n
    · obtain ⟨b1, o1, m1, x1, rfl, hb1, e1, r1, s1⟩ := (HA.out.on HO.out).at_ hlt
      obtain ⟨b2, o2, m2, x2, rfl, hb2, e2, r2, s2⟩ := (HB.out.on HO.out).at_ hlt
      have hk2 : (k : Int) < (n : Int) := by omega
      have R1 := Lib.hid (range_on r1)
      have R2 := Lib.hid (range_on r2)
      have S1 := Lib.hid s1
      have S2 := Lib.hid s2
      have E1 := Lib.hid e1
      have E2 := Lib.hid e2
      obtain ⟨v, hv⟩ : ∃ v, ndB x1 x2 = v := ⟨_, rfl⟩
      have HV := Lib.hid hv
      clear r1 r2 s1 s2 e1 e2 hv
      go_wp2_with (first | ((with_reducible refine stop_load 36 (.tmp 20) ?_ ?_); exact rfl; refine Stop.intro ?_; refine wpList_load_mid rfl 36 (.tmp 20) rfl b1 (o1 + k * 20) rfl (encM m1) _ (R1.out wr (On.refl wr)) Tryz.underlying36 rfl (by kernel_rfl) ?_) | ((with_reducible refine stop_store 36 (.tmp 8) (.tmp 21) ?_ ?_); exact rfl))
      refine Stop.intro ?_
      refine wpList_store_row rfl 36 (.tmp 8) (.tmp 21) rfl wr.heap.size rfl 36 #[.int .i64 0, .int .i64 0, .int .i64 0, .int .i64 0, .int .i64 0, .int .i64 0, .int .i64 0, .int .i64 0, .int .i64 0, .int .i64 0, .int .i64 0, .int .i64 0, .int .i64 0, .int .i64 0, .int .i64 0, .int .i64 0, .slice none 0 0, .int .i64 0, .int .i64 0, .int .i64 0] (encM m1).toArray rfl (Blk.new wr 36 [.int .i64 0, .int .i64 0, .int .i64 0, .int .i64 0, .int .i64 0, .int .i64 0, .int .i64 0, .int .i64 0, .int .i64 0, .int .i64 0, .int .i64 0, .int .i64 0, .int .i64 0, .int .i64 0, .int .i64 0, .int .i64 0, .slice none 0 0, .int .i64 0, .int .i64 0, .int .i64 0] _ rfl _ rfl) (by kernel_rfl) rfl (encM_all' m1) ?_
      intro V hV
      have hVs : V.heap.size = wr.heap.size + 1 := by rw [hV, setRow_size]; simp
      have hbV : On wr V := by rw [hV]; exact below_setRow ((Below.refl _ _).alloc (Nat.le_refl _) _) (Nat.le_refl _) _
      have HK1 := Lib.hid (show Blk V wr.heap.size 36 (encM m1) by rw [hV]; exact Blk.row (Blk.new wr 36 [.int .i64 0, .int .i64 0, .int .i64 0, .int .i64 0, .int .i64 0, .int .i64 0, .int .i64 0, .int .i64 0, .int .i64 0, .int .i64 0, .int .i64 0, .int .i64 0, .int .i64 0, .int .i64 0, .int .i64 0, .int .i64 0, .slice none 0 0, .int .i64 0, .int .i64 0, .int .i64 0] _ rfl _ rfl) _ _ rfl)
      have HVs := Lib.hid hVs
      clear hV hVs
      go_wp2_with (first | ((with_reducible refine stop_load 36 (.tmp 24) ?_ ?_); exact rfl; refine Stop.intro ?_; refine wpList_load_mid rfl 36 (.tmp 24) rfl b2 (o2 + k * 20) rfl (encM m2) _ (R2.out V hbV) Tryz.underlying36 rfl (by kernel_rfl) ?_) | ((with_reducible refine stop_store 36 (.tmp 9) (.tmp 25) ?_ ?_); exact rfl))
      refine Stop.intro ?_
      refine wpList_store_row rfl 36 (.tmp 9) (.tmp 25) rfl V.heap.size rfl 36 #[.int .i64 0, .int .i64 0, .int .i64 0, .int .i64 0, .int .i64 0, .int .i64 0, .int .i64 0, .int .i64 0, .int .i64 0, .int .i64 0, .int .i64 0, .int .i64 0, .int .i64 0, .int .i64 0, .int .i64 0, .int .i64 0, .slice none 0 0, .int .i64 0, .int .i64 0, .int .i64 0] (encM m2).toArray rfl (Blk.new V 36 [.int .i64 0, .int .i64 0, .int .i64 0, .int .i64 0, .int .i64 0, .int .i64 0, .int .i64 0, .int .i64 0, .int .i64 0, .int .i64 0, .int .i64 0, .int .i64 0, .int .i64 0, .int .i64 0, .int .i64 0, .int .i64 0, .slice none 0 0, .int .i64 0, .int .i64 0, .int .i64 0] _ rfl _ rfl) (by kernel_rfl) rfl (encM_all' m2) ?_
      intro U hU
      have hbU : On wr U := below_then hbV (by rw [hU]; exact below_setRow ((Below.refl _ _).alloc (Nat.le_refl _) _) (Nat.le_refl _) _)
      have HK2 := Lib.hid (show Blk U V.heap.size 36 (encM m2) by rw [hU]; exact Blk.row (Blk.new V 36 [.int .i64 0, .int .i64 0, .int .i64 0, .int .i64 0, .int .i64 0, .int .i64 0, .int .i64 0, .int .i64 0, .int .i64 0, .int .i64 0, .int .i64 0, .int .i64 0, .int .i64 0, .int .i64 0, .int .i64 0, .int .i64 0, .slice none 0 0, .int .i64 0, .int .i64 0, .int .i64 0] _ rfl _ rfl) _ _ rfl)
      have HK3 := Lib.hid (show Blk U wr.heap.size 36 (encM m1) by rw [hU]; exact (HK1.out.alloc _).row_other (by have := HVs.out; omega) _)
      clear hU hbV
      go_wp2_with (first | ((with_reducible refine stop_load 36 (.tmp 8) ?_ ?_); exact rfl; refine Stop.intro ?_; refine Go.Proofs.YtechccoongilcaaGreatDoor.wpList_load_row rfl 36 (.tmp 8) rfl (wr.heap.size) rfl 36 (encM m1).toArray _ (HK3.out) Tryz.underlying36 rfl (by kernel_rfl) ?_) | ((with_reducible refine stop_load 36 (.tmp 9) ?_ ?_); exact rfl; refine Stop.intro ?_; refine Go.Proofs.YtechccoongilcaaGreatDoor.wpList_load_row rfl 36 (.tmp 9) rfl (V.heap.size) rfl 36 (encM m2).toArray _ (HK2.out) Tryz.underlying36 rfl (by kernel_rfl) ?_))
      refine (pnode_to HV.out _ (S1.out.below hbU) (S2.out.below hbU)).mono ?_
      rintro e w5 ⟨rfl, hb5⟩
      have HO5 := Lib.hid (below_then HO.out (below_then hbU hb5))
      clear hb5 hbU
      cases v with
      | true =>
        have hxx := (ndB_iff x1 x2).1 HV.out
        subst hxx
        go_wp2_with fail
        go_roundw
        case rel => exact ⟨k + 1, by omega, by go_num, fun j hj => by
          by_cases e : j = k
          · subst e; rw [E1.out, E2.out]
          · exact HL.out j (by omega), HO5.out⟩
        case measure => simp [intOf]; omega
      | false =>
        have HW := Lib.hid (ndsB_ne E1.out E2.out (fun e => by have := (ndB_iff x1 x2).2 e; rw [HV.out] at this; cases this))
        go_wp2_with fail
        go_ret
        exact ⟨ret_bool (by rw [HW.out]), HO5.out⟩
    · have HW := Lib.hid (ndsB_all (a := a) (b := b) (by omega) (fun j hj => HL.out j (by omega)))
      have hk2 : (n : Int) ≤ (k : Int) := by omega
      go_wp2_with fail
      go_ret
      exact ⟨ret_bool (by rw [HW.out]), HO.out⟩
/-- Same tells whether two rows are. -/
theorem psame_any (a b : List Nd) (A B : Option Addr) (n m ca cb : Nat) (w : World) (ha : Sees w A n a) (hb : Sees w B m b) : Calls Tryz.prog 13 #[.slice A n ca, .slice B m cb] w fun e w' => e = .returned (.bool (ndsB a b)) ∧ Below w.heap.size w w' := by
  have HC := Lib.hid (peqfunc_any a b A B n m ca cb w ha hb)
  clear ha hb
  go_enter Tryz.func13, Tryz.ntmps13
  go_wp2_with fail
  refine HC.out.mono ?_
  rintro e w5 ⟨rfl, hb5⟩
  go_wp2_with fail
  go_ret
  exact ⟨rfl, hb5⟩
end Go.Proofs.YtechccoongilcaaGreatDoor
/- The program's package read: a new reader. -/
namespace Go.Proofs.YtechccoongilcaaGreatDoor
open Go.RowKit Go.ChangeMaps
set_option linter.unusedVariables false
set_option linter.unusedSimpArgs false
theorem Box.ne_slice {w : World} {n g : Nat} {v : Value} {A : Option Addr} {m c : Nat} (h : Box w n [v]) (hg : w.cell? ⟨g, 0, none⟩ = some (.slice A m c)) (hv : ∀ A m c, v ≠ .slice A m c) : n ≠ g := by
  rintro rfl
  have q := h.2.2 0 _ rfl
  rw [hg] at q
  injection q with q
  exact hv _ _ _ q.symm
theorem Tells.bar {w w' : World} {rb g : Nat} {part : Addr} {lo hi : Int} {v : Value} {A : Option Addr} {m c : Nat} (h : Tells w rb part lo hi v) (hg : w.cell? ⟨g, 0, none⟩ = some (.slice A m c)) (hb : Bar g w w') : Tells w' rb part lo hi v := by
  obtain ⟨D, h1, h2, h3, h4⟩ := h
  exact ⟨D, h1, h2.bar hb (h2.ne_slice hg (by intros; simp)), h3.bar hb (h3.ne_slice hg (by intros; simp)), h4.bar hb (h4.ne_slice hg (by intros; simp))⟩
theorem Lets.bar' {w w' : World} {rb g M : Nat} {A : Option Addr} {m c : Nat} (h : Lets w rb g M) (hg : w.cell? ⟨g, 0, none⟩ = some (.slice A m c)) (hb : Bar g w w') : Lets w' rb g M := by
  obtain ⟨l, h1, h2, h3⟩ := h.ex
  exact ⟨h.box.bar hb h.ne.1, h.ne, l, h1.bar hb h.ne.2, fun p hp => ⟨(h2 p hp).1, (h2 p hp).2.bar hg hb⟩, h3⟩
theorem Lets.bar {toks : List Tok} {size : Int} {i : Nat} {wr : Bool} {row opn : Value} {s : Sty} {mp : Value} {w w' : World} {rb g M : Nat} (h : Lets w rb g M) (hr : Rd toks size g w i wr row opn s mp) (hb : Bar g w w') : Lets w' rb g M := by
  obtain ⟨A, m, c, h1, h2, h3, h4, h5⟩ := hr
  exact h.bar' (h5.box.2.2 0 _ rfl) hb
set_option maxRecDepth 100000 in
theorem newreader_any (toks : List Tok) (A : Option Addr) (m c : Nat) (size : Int) (w : World) (h : Rows 4 encT w A m toks) (hc : m ≤ c) (hA : Apart w.heap.size A) :
    Calls Tryz.prog 22 #[.slice A m c, .int .i64 size] w fun e w' => ∃ rb M, e = .returned (.pointer (some ⟨w.heap.size, 0, none⟩)) ∧
      Rd toks size w.heap.size w' 0 false (.slice none 0 0) (.slice none 0 0) .none (.map (some M)) ∧ Lets w' rb w.heap.size M ∧ Below w.heap.size w w' := by
  have HR := Lib.hid h
  clear h
  go_enter Tryz.func22, Tryz.ntmps22
  go_wp2_with fail
  refine (letters_any w.heap.size _ (by simp)).mono ?_
  rintro e w1 ⟨M, rb, rfl, hl, hb⟩
  have hB : Blk (w.alloc (.cells (rcells (.slice A m c) size false (.slice none 0 0) (.slice none 0 0) .none (.map none)).toArray 59)) w.heap.size 59 (rcells (.slice A m c) size false (.slice none 0 0) (.slice none 0 0) .none (.map none)) := Blk.new w _ _ _ rfl _ rfl
  have hB1 : Blk w1 w.heap.size 59 (rcells (.slice A m c) size false (.slice none 0 0) (.slice none 0 0) .none (.map none)) := hB.on hb
  have hw1 : Below w.heap.size w w1 := Below.trans ((Below.refl w.heap.size w).alloc (Nat.le_refl _) _) (hb.mono (by simp))
  have hr : Rd toks size w.heap.size w1 0 false (.slice none 0 0) (.slice none 0 0) .none (.map none) := ⟨A, m, c, by simpa using HR.out.below hw1, hA, hc, Nat.zero_le _, hB1⟩
  have g0 := hr.lt
  have f17 := hr.frozen 17
  obtain ⟨v17, c17⟩ := hr.cell 17 (by omega)
  have HRd := Lib.hid hr
  have HL := Lib.hid hl
  have HW := Lib.hid hw1
  clear hr hl hw1 hB hB1 hb
  go_wp2_with fail
  go_ret
  exact ⟨rb, M, rfl, HRd.out.set 17 _ (fun _ => rfl), HL.out.bar HRd.out ((Bar.refl _ _).set _ _), ((Bar.refl w.heap.size w1).set 17 (.map (some M))).below (Nat.le_refl _) HW.out.size |> HW.out.trans⟩
end Go.Proofs.YtechccoongilcaaGreatDoor
/- The document's Same: rows of nodes compared. (Written by program: tools/drafts/gensame.py.) -/
namespace Go.Proofs.YtechccoongilcaaGreatDoor
open Go.RowKit
set_option linter.unusedVariables false
set_option linter.unusedSimpArgs false
theorem rndone_to {m1 m2 : NdM} {x1 x2 : Nd} {v : Bool} (hv : ndB x1 x2 = v) (w : World) (h1 : Shows w m1 x1) (h2 : Shows w m2 x2) : Calls Tryz.prog 19 #[.agg (encM m1).toArray, .agg (encM m2).toArray] w fun e w' => e = .returned (.bool v) ∧ Below w.heap.size w w' := by
  subst hv; exact rndone_any m1 m2 x1 x2 w h1 h2
set_option maxHeartbeats 4000000 in
set_option maxRecDepth 100000 in
theorem rsame_any (a b : List Nd) (A B : Option Addr) (n m ca cb : Nat) (w : World) (ha : Sees w A n a) (hb : Sees w B m b) : Calls Tryz.prog 10 #[.slice A n ca, .slice B m cb] w fun e w' => e = .returned (.bool (ndsB a b)) ∧ Below w.heap.size w w' := by
  have hn := ha.bound
  have hm := hb.bound
  have hla := ha.len
  have hlb := hb.len
  by_cases hnm : n = m
  rotate_left
  · have HV := Lib.hid (ndsB_len (a := a) (b := b) (by omega))
    have h1 : ((n : Int) != (m : Int)) = true := by simp; omega
    clear ha hb hla hlb
    go_enter Tryz.func10, Tryz.ntmps10
    go_wp2_with fail
    go_ret
    exact ⟨ret_bool (by rw [HV.out]), Below.refl _ _⟩
  subst hnm
  have HA := Lib.hid ha
  have HB := Lib.hid hb
  have h1 : ((n : Int) != (n : Int)) = false := by simp
  clear ha hb
  go_enter Tryz.func10, Tryz.ntmps10
  go_wp2_with fail
  go_loopw [5] (fun i wr => ∃ k : Nat, k ≤ n ∧ i = .int .i64 k ∧ (∀ j, j < k → a[j]? = b[j]?) ∧ On w wr) (fun i _ => n - (intOf i).toNat)
  case atStart => exact ⟨0, by omega, rfl, fun j hj => by omega, On.refl w⟩
  case round =>
    obtain ⟨k, hk, rfl, hall, hon⟩ := hrel
    have HL := Lib.hid hall
    have HO := Lib.hid hon
    clear hall hon
    by_cases hlt : k < n
    · obtain ⟨b1, o1, m1, x1, rfl, hb1, e1, r1, s1⟩ := (HA.out.on HO.out).at_ hlt
      obtain ⟨b2, o2, m2, x2, rfl, hb2, e2, r2, s2⟩ := (HB.out.on HO.out).at_ hlt
      have hk2 : (k : Int) < (n : Int) := by omega
      have R1 := Lib.hid (range_on r1)
      have R2 := Lib.hid (range_on r2)
      have S1 := Lib.hid s1
      have S2 := Lib.hid s2
      have E1 := Lib.hid e1
      have E2 := Lib.hid e2
      obtain ⟨v, hv⟩ : ∃ v, ndB x1 x2 = v := ⟨_, rfl⟩
      have HV := Lib.hid hv
      clear r1 r2 s1 s2 e1 e2 hv
      go_wp2_with fail
      refine wp_region_held (S := fun W' => On wr W') (by kernel_rfl) ?_
      show wpAnyH _ _ _ _ _ _ _ _ wr.drew
      have h0 : On wr wr.drew := (On.refl wr).drew
      refine wpAnyH_take (i := 0) (v := ?_) rfl (by kernel_rfl) (by kernel_rfl) (by kernel_rfl) (fun _ _ _ h => h) (Or.inl ⟨by rfl, ?_⟩) h0 ?_
      rotate_left
      · intro w hSw; (try dsimp only at hSw); go_simp; with_reducible rfl
      try simp only [Act.put, List.getElem_toArray, List.getElem_cons_succ, List.getElem_cons_zero, List.setIfInBounds_toArray, List.set_cons_zero, List.set_cons_succ]
      refine wpAnyH_take (i := 1) (v := ?_) rfl (by kernel_rfl) (by kernel_rfl) (by kernel_rfl) (fun _ _ _ h => h) (Or.inl ⟨by rfl, ?_⟩) h0 ?_
      rotate_left
      · intro w hSw; (try dsimp only at hSw); go_simp; with_reducible rfl
      try simp only [Act.put, List.getElem_toArray, List.getElem_cons_succ, List.getElem_cons_zero, List.setIfInBounds_toArray, List.set_cons_zero, List.set_cons_succ]
      refine wpAnyH_take (i := 2) (v := ?_) rfl (by kernel_rfl) (by kernel_rfl) (by kernel_rfl) (fun _ _ _ h => h) (Or.inl ⟨by rfl, ?_⟩) h0 ?_
      rotate_left
      · intro w hSw; (try dsimp only at hSw); go_simp; with_reducible rfl
      try simp only [Act.put, List.getElem_toArray, List.getElem_cons_succ, List.getElem_cons_zero, List.setIfInBounds_toArray, List.set_cons_zero, List.set_cons_succ]
      refine wpAnyH_take (i := 3) (v := ?_) rfl (by kernel_rfl) (by kernel_rfl) (by kernel_rfl) (fun _ _ _ h => h) ?_ h0 ?_
      rotate_left
      · refine yieldsIf_load_mid ?_ 36 (.tmp 19) ?_ b1 (o1 + k * 20) ?_ (encM m1) _ R1.out Tryz.underlying36 rfl (by kernel_rfl) <;> rfl
      try simp only [Act.put, List.getElem_toArray, List.getElem_cons_succ, List.getElem_cons_zero, List.setIfInBounds_toArray, List.set_cons_zero, List.set_cons_succ]
      refine wpAnyH_take (i := 4) (v := ?_) rfl (by kernel_rfl) (by kernel_rfl) (by kernel_rfl) (fun _ _ _ h => h) (Or.inl ⟨by rfl, ?_⟩) h0 ?_
      rotate_left
      · intro w hSw; (try dsimp only at hSw); go_simp; with_reducible rfl
      try simp only [Act.put, List.getElem_toArray, List.getElem_cons_succ, List.getElem_cons_zero, List.setIfInBounds_toArray, List.set_cons_zero, List.set_cons_succ]
      refine wpAnyH_take (i := 5) (v := ?_) rfl (by kernel_rfl) (by kernel_rfl) (by kernel_rfl) (fun _ _ _ h => h) (Or.inl ⟨by rfl, ?_⟩) h0 ?_
      rotate_left
      · intro w hSw; (try dsimp only at hSw); go_simp; with_reducible rfl
      try simp only [Act.put, List.getElem_toArray, List.getElem_cons_succ, List.getElem_cons_zero, List.setIfInBounds_toArray, List.set_cons_zero, List.set_cons_succ]
      refine wpAnyH_take (i := 6) (v := ?_) rfl (by kernel_rfl) (by kernel_rfl) (by kernel_rfl) (fun _ _ _ h => h) (Or.inl ⟨by rfl, ?_⟩) h0 ?_
      rotate_left
      · intro w hSw; (try dsimp only at hSw); go_simp; with_reducible rfl
      try simp only [Act.put, List.getElem_toArray, List.getElem_cons_succ, List.getElem_cons_zero, List.setIfInBounds_toArray, List.set_cons_zero, List.set_cons_succ]
      refine wpAnyH_take (i := 7) (v := ?_) rfl (by kernel_rfl) (by kernel_rfl) (by kernel_rfl) (fun _ _ _ h => h) ?_ h0 ?_
      rotate_left
      · refine yieldsIf_load_mid ?_ 36 (.tmp 23) ?_ b2 (o2 + k * 20) ?_ (encM m2) _ R2.out Tryz.underlying36 rfl (by kernel_rfl) <;> rfl
      try simp only [Act.put, List.getElem_toArray, List.getElem_cons_succ, List.getElem_cons_zero, List.setIfInBounds_toArray, List.set_cons_zero, List.set_cons_succ]
      refine wpAnyH_ready (rs := [8]) (by kernel_rfl) (by simp) ?_
      refine AllReadyH.cons rfl (fun K hK => ?_) AllReadyH.nil
      go_simp
      refine (rndone_to HV.out _ (S1.out.below h0) (S2.out.below h0)).mono ?_
      rintro e w5 ⟨rfl, hb5⟩
      refine hK.out _ _ (On.step h0 hb5) (fun h1 => ?_)
      clear hK K
      try simp only [Act.put, List.getElem_toArray, List.getElem_cons_succ, List.getElem_cons_zero, List.setIfInBounds_toArray, List.set_cons_zero, List.set_cons_succ]
      refine wpAnyH_take (i := 9) (v := ?_) rfl (by kernel_rfl) (by kernel_rfl) (by kernel_rfl) (fun _ _ _ h => h) (Or.inl ⟨by rfl, ?_⟩) h1 ?_
      rotate_left
      · intro w hSw; (try dsimp only at hSw); go_simp; with_reducible rfl
      try simp only [Act.put, List.getElem_toArray, List.getElem_cons_succ, List.getElem_cons_zero, List.setIfInBounds_toArray, List.set_cons_zero, List.set_cons_succ]
      refine wpAnyH_done (by kernel_rfl) ?_ _
      have HO5 := Lib.hid (below_then HO.out h1)
      clear h0 h1 hb5
      cases v with
      | true =>
        have hxx := (ndB_iff x1 x2).1 HV.out
        subst hxx
        go_wp2_with fail
        go_roundw
        case rel => exact ⟨k + 1, by omega, by go_num, fun j hj => by
          by_cases e : j = k
          · subst e; rw [E1.out, E2.out]
          · exact HL.out j (by omega), HO5.out⟩
        case measure => simp [intOf]; omega
      | false =>
        have HW := Lib.hid (ndsB_ne E1.out E2.out (fun e => by have := (ndB_iff x1 x2).2 e; rw [HV.out] at this; cases this))
        go_wp2_with fail
        go_ret
        exact ⟨ret_bool (by rw [HW.out]), HO5.out⟩
    · have HW := Lib.hid (ndsB_all (a := a) (b := b) (by omega) (fun j hj => HL.out j (by omega)))
      go_wp2_with fail
      go_ret
      exact ⟨ret_bool (by rw [HW.out]), HO.out⟩
end Go.Proofs.YtechccoongilcaaGreatDoor
/- The program's package read: a side; a box, a float, or nothing that begins. -/
namespace Go.Proofs.YtechccoongilcaaGreatDoor
open Go.RowKit
set_option linter.unusedVariables false
set_option linter.unusedSimpArgs false
def sideS (toks : List Tok) (i : Nat) (wr : Bool) : Int × Nat × Bool := if !wr && sgB toks i 76 then (1, i + 1, false) else (2, mustS toks i wr 82)
theorem pside_to {toks : List Tok} {size : Int} {g : Nat} {w : World} {i j : Nat} {wr b : Bool} {row opn : Value} {s : Sty} {mp : Value} {n : Int} (hv : sideS toks i wr = (n, j, b)) (h : Rd toks size g w i wr row opn s mp) :
    Calls Tryz.prog 79 #[.pointer (some ⟨g, 0, none⟩)] w fun e w' => e = .returned (.int .i64 n) ∧ Bar g w w' ∧ w'.heap.size = w.heap.size ∧ Rd toks size g w' j b row opn s mp := by
  unfold sideS at hv
  rcases hq : (!wr && sgB toks i 76) with _ | _
  · rw [hq] at hv
    injection hv with e1 hm
    subst e1
    have HM := Lib.hid (psign_to hq h)
    have HN := Lib.hid hm
    clear hq h hm
    go_enter Tryz.func79, Tryz.ntmps79
    go_wp2_with fail
    refine HM.out.mono ?_
    rintro e w' ⟨rfl, hb, hs, hr⟩
    have HB := Lib.hid hb
    have HR := Lib.hid hr
    clear hb hr
    go_wp2_with fail
    refine (must_to HN.out HR.out).mono ?_
    rintro e w2 ⟨⟨v, rfl⟩, hb2, hs2, hr2⟩
    have HB2 := Lib.hid hb2
    have HR2 := Lib.hid hr2
    clear hb2 hr2
    go_wp2_with fail
    go_ret
    exact ⟨rfl, HB.out.trans HB2.out, by omega, HR2.out⟩
  · rw [hq] at hv
    injection hv with e1 e2
    injection e2 with e2 e3
    subst e1 e2 e3
    have hwr : wr = false := by cases wr with | false => rfl | true => simp at hq
    subst hwr
    have HM := Lib.hid (psign_to hq h)
    clear hq h
    go_enter Tryz.func79, Tryz.ntmps79
    go_wp2_with fail
    refine HM.out.mono ?_
    rintro e w' ⟨rfl, hb, hs, hr⟩
    have HB := Lib.hid hb
    have HR := Lib.hid hr
    clear hb hr
    go_wp2_with fail
    go_ret
    exact ⟨rfl, HB.out, hs, HR.out⟩
theorem psign_no {toks : List Tok} {size : Int} {g : Nat} {w : World} {i : Nat} {wr : Bool} {row opn : Value} {s : Sty} {mp : Value} {c : Int} (hv : (!wr && sgB toks i c) = false) (h : Rd toks size g w i wr row opn s mp) :
    Calls Tryz.prog 45 #[.pointer (some ⟨g, 0, none⟩), .int .i32 c] w fun e w' => e = .returned (.bool false) ∧ Bar g w w' ∧ w'.heap.size = w.heap.size ∧ Rd toks size g w' i wr row opn s mp := psign_to hv h
theorem psign_yes {toks : List Tok} {size : Int} {g : Nat} {w : World} {i : Nat} {row opn : Value} {s : Sty} {mp : Value} {c : Int} (hv : sgB toks i c = true) (h : Rd toks size g w i false row opn s mp) :
    Calls Tryz.prog 45 #[.pointer (some ⟨g, 0, none⟩), .int .i32 c] w fun e w' => e = .returned (.bool true) ∧ Bar g w w' ∧ w'.heap.size = w.heap.size ∧ Rd toks size g w' (i + 1) false row opn s mp := psign_to (v := true) (by simpa using hv) h
/-- what a thing is asked by: one of four signs, or none. -/
theorem thing_none {toks : List Tok} {size : Int} {g : Nat} {w : World} {i : Nat} {row opn : Value} {s : Sty} {mp : Value} (ho : opens toks i = false) (h : Rd toks size g w i false row opn s mp) :
    Calls Tryz.prog 48 #[.pointer (some ⟨g, 0, none⟩)] w fun e w' => e = .returned .nilIface ∧ Bar g w w' ∧ Rd toks size g w' i true row opn s mp := by
  unfold opens at ho
  simp only [Bool.or_eq_false_iff] at ho
  obtain ⟨⟨⟨h1, h2⟩, h3⟩, h4⟩ := ho
  have H1 := Lib.hid h1
  have H2 := Lib.hid h2
  have H3 := Lib.hid h3
  have H4 := Lib.hid h4
  have HR := Lib.hid h
  have HB := Lib.hid (Bar.refl g w)
  clear h1 h2 h3 h4 h
  go_enter Tryz.func48, Tryz.ntmps48
  go_wp2_with fail
  refine (psign_no (by rw [H1.out]; rfl) HR.out).mono ?_
  rintro e w1 ⟨rfl, hb, hs1, hr⟩
  have HR := Lib.hid hr
  have HB := Lib.hid (HB.out.trans hb)
  clear hb hr
  go_wp2_with fail
  refine (psign_no (by rw [H2.out]; rfl) HR.out).mono ?_
  rintro e w2 ⟨rfl, hb, hs2, hr⟩
  have HR := Lib.hid hr
  have HB := Lib.hid (HB.out.trans hb)
  clear hb hr
  go_wp2_with fail
  refine (psign_no (by rw [H3.out]; rfl) HR.out).mono ?_
  rintro e w3 ⟨rfl, hb, hs3, hr⟩
  have HR := Lib.hid hr
  have HB := Lib.hid (HB.out.trans hb)
  clear hb hr
  go_wp2_with fail
  refine (psign_no (by rw [H4.out]; rfl) HR.out).mono ?_
  rintro e w4 ⟨rfl, hb, hs4, hr⟩
  have HR := Lib.hid hr
  have HB := Lib.hid (HB.out.trans hb)
  have g0 := hr.lt
  have f2 := hr.frozen 2
  obtain ⟨v2, c2⟩ := hr.cell 2 (by omega)
  clear hb hr
  go_wp2_with fail
  go_ret
  exact ⟨rfl, HB.out.set _ _, HR.out.set 2 _ (fun _ => rfl)⟩
theorem thing_box {toks : List Tok} {size : Int} {g : Nat} {w : World} {i j1 j2 : Nat} {b1 b2 : Bool} {n1 n2 : Int} {row opn : Value} {s : Sty} {mp : Value} (ho : sgB toks i 123 = true)
    (hv1 : numS toks (i + 1) false 1 maxN = (n1, j1, b1)) (hv2 : numS toks j1 b1 1 maxN = (n2, j2, b2)) (h : Rd toks size g w i false row opn s mp) :
    Calls Tryz.prog 48 #[.pointer (some ⟨g, 0, none⟩)] w fun e w' => e = .returned (.iface 127 (.agg #[.int .i64 n1, .int .i64 n2])) ∧ Bar g w w' ∧ Rd toks size g w' j2 b2 row opn s mp := by
  have H1 := Lib.hid (sgB_one ho (show (123 : Int) ≠ 91 by decide))
  have H2 := Lib.hid (sgB_one ho (show (123 : Int) ≠ 40 by decide))
  have H3 := Lib.hid ho
  have HV1 := Lib.hid hv1
  have HV2 := Lib.hid hv2
  have HR := Lib.hid h
  have HB := Lib.hid (Bar.refl g w)
  clear ho hv1 hv2 h
  go_enter Tryz.func48, Tryz.ntmps48
  go_wp2_with fail
  refine (psign_no (by rw [H1.out]; rfl) HR.out).mono ?_
  rintro e w1 ⟨rfl, hb, hs1, hr⟩
  have HR := Lib.hid hr
  have HB := Lib.hid (HB.out.trans hb)
  clear hb hr
  go_wp2_with fail
  refine (psign_no (by rw [H2.out]; rfl) HR.out).mono ?_
  rintro e w2 ⟨rfl, hb, hs2, hr⟩
  have HR := Lib.hid hr
  have HB := Lib.hid (HB.out.trans hb)
  clear hb hr
  go_wp2_with fail
  refine (psign_yes H3.out HR.out).mono ?_
  rintro e w3 ⟨rfl, hb, hs3, hr⟩
  have HR := Lib.hid (hr.bar (Bar.refl g _).drew rfl)
  have HB := Lib.hid (HB.out.trans hb).drew
  clear hb hr
  go_wp2_with fail
  go_region_held3 (fun _ => True) (trivial) (first
    | (go_at_call 78; ((with_reducible refine (plen_to HV1.out HR.out).mono ?_); rintro e w4 ⟨rfl, hb, hs4, hr⟩; have HR1 := Lib.hid hr; have HB1 := Lib.hid (HB.out.trans hb); clear hb hr))
    | (go_at_call 78; ((with_reducible refine (plen_to HV2.out HR1.out).mono ?_); rintro e w5 ⟨rfl, hb, hs5, hr⟩; have HR2 := Lib.hid hr; have HB2 := Lib.hid (HB1.out.trans hb); clear hb hr)))
  go_wp2_with fail
  go_ret
  exact ⟨rfl, HB2.out, HR2.out⟩
end Go.Proofs.YtechccoongilcaaGreatDoor
/- The document's answers for package canon: digits, attributes. -/
namespace Go.Proofs.YtechccoongilcaaGreatDoor
open Go.RowKit
set_option linter.unusedVariables false
set_option linter.unusedSimpArgs false
theorem digS_size {n : Nat} (h : n ≤ 1099511627776) : ((digS n).size : Int) ≤ 13 := by
  have := pc_len (p := .n n) h
  have e : (digS n).size = (digitsL n).length := bytesOf_size _
  rw [e]
  have : (digitsL n).length ≤ 13 := this
  omega
theorem conv_digit (w : World) (n : Nat) : (convert 62 9 (.slice (some ⟨w.heap.size, 0, none⟩) 1 1)).run Tryz.prog (w.alloc (.cells #[.int .u8 (48 + (n : Int) % 10)] 5)) = .ok (.string (bytesOf [48 + ((n % 10 : Nat) : Int)])) (w.alloc (.cells #[.int .u8 (48 + (n : Int) % 10)] 5)) := by
  refine run_convert_bytes_back _ 62 9 5 ⟨w.heap.size, 0, none⟩ 1 [UInt8.ofNat (48 + ((n % 10 : Nat) : Int)).toNat] Tryz.underlying62 Tryz.underlying5 Tryz.underlying9 ?_
  intro j hj
  simp only [List.length_singleton] at hj
  obtain rfl : j = 0 := by omega
  rw [Addr.add_lit, World.cell?_alloc_new]
  simp only [List.getElem_cons_zero, UInt8.toNat_ofNat']
  show some (Value.int IntKind.u8 _) = _
  congr 2
  omega
set_option maxHeartbeats 1000000 in
set_option maxRecDepth 100000 in
theorem vdig_all : ∀ (n : Nat), n ≤ 1099511627776 → ∀ (w : World), Calls Tryz.prog 35 #[.int .i64 (n : Int)] w fun e w' => e = .returned (.string (digS n)) ∧ Below w.heap.size w w' := by
  intro n
  induction n using Nat.strongRecOn with
  | _ n ih =>
  intro hn w
  by_cases h9 : n < 10
  · have HD := Lib.hid (digS_small h9)
    have hm : n % 10 = n := by omega
    have hc := conv_digit w n
    rw [hm, ← HD.out] at hc
    have h1 : (n : Int) ≤ 9 := by omega
    clear hm ih hn HD
    go_enter Tryz.func35, Tryz.ntmps35
    go_wp2_with fail
    go_ret
    exact ⟨rfl, by go_grown⟩
  · have hD := digS_big h9
    have hd1 := digS_size (n := n / 10) (by omega)
    have hd2 : ((bytesOf [48 + ((n % 10 : Nat) : Int)]).size : Int) ≤ 1 := by rw [bytesOf_size]; simp
    have hI := ih (n / 10) (by omega) (by omega)
    have hc := conv_digit w n
    have e : ((n / 10 : Nat) : Int) = (n : Int) / 10 := by omega
    rw [e] at hI
    generalize digS (n / 10) = u at hD hd1 hI
    generalize bytesOf [48 + ((n % 10 : Nat) : Int)] = v at hD hd2 hc
    have IH := Lib.hid hI
    have HD := Lib.hid hD
    have hd3 : (u.size : Int) ≤ 8388608 := by omega
    have hd4 : (v.size : Int) ≤ 8388608 := by omega
    have h1 : (9 : Int) < (n : Int) := by omega
    have h2 : (n : Int) ≤ 1099511627776 := by omega
    clear ih hn hI hD hd1 hd2 e
    go_enter Tryz.func35, Tryz.ntmps35
    go_wp2_with fail
    refine (IH.out _).mono ?_
    rintro e w1 ⟨rfl, hb⟩
    have HB := Lib.hid (below_then (show Below w.heap.size w _ by go_grown) hb)
    clear hb hc
    go_wp2_with fail
    go_ret
    exact ⟨by rw [HD.out]; rfl, HB.out⟩
/-- a number from 0 on. -/
theorem vdig_to {z : Int} (h0 : 0 ≤ z) (h : z ≤ 1099511627776) {v : ByteArray} (hv : digS z.toNat = v) (w : World) : Calls Tryz.prog 35 #[.int .i64 z] w fun e w' => e = .returned (.string v) ∧ Below w.heap.size w w' := by
  have := vdig_all z.toNat (by omega) w
  rw [show ((z.toNat : Nat) : Int) = z by omega, hv] at this
  exact this
end Go.Proofs.YtechccoongilcaaGreatDoor
/- The program's package valid: the row of what is open. -/
namespace Go.Proofs.YtechccoongilcaaGreatDoor
open Go.RowKit
set_option linter.unusedVariables false
set_option linter.unusedSimpArgs false
def cntL (s : Sm) (A : Option Addr) (k c : Nat) : List Value := [.int .i64 s.depth, .int .i64 s.pieces, .int .i64 s.nodes, .int .i64 s.heights, .slice A k c]
/-- what has been counted lies in block D; what is open in a row of the call's own. -/
structure Cnt (base D : Nat) (w : World) (s : Sm) (A : Option Addr) (k c : Nat) (es : List Int) : Prop where
  blk : Blk w D 46 (cntL s A k c)
  row : w.ownsRow base 3 1 (.slice A k c) k (es.map (Value.int .i64))
theorem Cnt.len {base D : Nat} {w : World} {s : Sm} {A : Option Addr} {k c : Nat} {es : List Int} (h : Cnt base D w s A k c es) : es.length = k := by
  have := h.row.1
  simpa using this
theorem Cnt.ints {base D : Nat} {w : World} {s : Sm} {A : Option Addr} {k c : Nat} {es : List Int} (h : Cnt base D w s A k c es) : Ints w A k es := (ownsRow_cells h.row).ints
theorem Cnt.on {base D : Nat} {w w' : World} {s : Sm} {A : Option Addr} {k c : Nat} {es : List Int} (h : Cnt base D w s A k c es) (hb : On w w') : Cnt base D w' s A k c es := ⟨h.blk.on hb, owns_below h.row hb⟩
theorem Cnt.cap {base D : Nat} {w : World} {s : Sm} {A : Option Addr} {k c : Nat} {es : List Int} (h : Cnt base D w s A k c es) : k ≤ c ∧ c ≤ 9223372036854775807 := by
  rcases h.row.2 with ⟨h1, h2⟩ | ⟨g, cap, cur, h1, _, _, h2, h3, _⟩
  · injection h1 with _ h1 h3; omega
  · injection h1 with _ _ h1
    unfold maxLen at h3
    omega
/-- only block D has turned. -/
structure OnlyAt (D : Nat) (w w' : World) : Prop where
  below : Below D w w'
  size : w'.heap.size = w.heap.size
  block : ∀ k, k ≠ D → w'.heap[k]? = w.heap[k]?
theorem OnlyAt.refl (D : Nat) (w : World) : OnlyAt D w w := ⟨Below.refl _ _, rfl, fun _ _ => rfl⟩
theorem OnlyAt.drewN {D : Nat} {w w' : World} (h : OnlyAt D w w') (n : Nat) : OnlyAt D w (w'.drewN n) := ⟨below_drewN h.below n, h.size, h.block⟩
theorem OnlyAt.drew {D : Nat} {w w' : World} (h : OnlyAt D w w') : OnlyAt D w w'.drew := ⟨h.below.drew, h.size, h.block⟩
theorem OnlyAt.set {D : Nat} {w w' : World} (h : OnlyAt D w w') (j : Nat) (v : Value) : OnlyAt D w (w'.setCell ⟨D, j, none⟩ v) :=
  ⟨h.below.setCell (Nat.le_refl _) v, by simp [h.size], fun k hk => (Below.heap_setCell _ _ _ _ hk).trans (h.block k hk)⟩
theorem OnlyAt.blk {D g : Nat} {w w' : World} {t : TypeId} {vs : List Value} (h : OnlyAt D w w') (hg : g ≠ D) (hb : Blk w g t vs) : Blk w' g t vs := (h.block g hg).trans hb
theorem owns_only {D base : Nat} {w w' : World} {e t : TypeId} {size : Nat} {v : Value} {n : Nat} {xs vs : List Value} (h : w.ownsRow base e size v n xs) (ho : OnlyAt D w w') (hD : Blk w D t vs) (ht : e ≠ t) : w'.ownsRow base e size v n xs := by
  refine ⟨h.1, ?_⟩
  rcases h.2 with h2 | ⟨g, cap, cur, h1, h2, h3, h4⟩
  · exact .inl h2
  · refine .inr ⟨g, cap, cur, h1, h2, (ho.block g (fun e => ?_)).trans h3, h4⟩
    subst e
    rw [show w.heap[g]? = _ from hD] at h3
    injection h3 with h3
    injection h3 with _ h3 _
    exact ht h3.symm
theorem owns_take {base : Nat} {w : World} {e : TypeId} {A : Option Addr} {n c : Nat} {xs : List Value} (h : w.ownsRow base e 1 (.slice A n c) n xs) {k : Nat} (hk : k ≤ n) : w.ownsRow base e 1 (.slice A k c) k (xs.take k) := by
  have hl := h.1
  refine ⟨by rw [List.length_take]; omega, ?_⟩
  rcases h.2 with ⟨h1, h2⟩ | ⟨g, cap, cur, h1, h2, h3, h4, h5, h6, h7⟩
  · injection h1 with h1 _ h3
    subst h1 h3
    obtain rfl : k = 0 := by omega
    exact .inl ⟨rfl, rfl⟩
  · injection h1 with h1 _ h8
    subst h1 h8
    refine .inr ⟨g, c, cur, rfl, h2, h3, by omega, h5, h6, ?_⟩
    rw [← h7, List.take_take]
    congr 1
    omega
theorem Cnt.below {base D : Nat} {w w' : World} {s : Sm} {A : Option Addr} {k c : Nat} {es : List Int} (h : Cnt base D w s A k c es) (hb : Below w.heap.size w w') : Cnt base D w' s A k c es := h.on hb
theorem pend_any (base D : Nat) (w : World) (s : Sm) (A : Option Addr) (k c : Nat) (es : List Int) (z : Int) (h : Cnt base D w s A (k + 1) c es) (hz : es[k]? = some z) : Calls Tryz.prog 38 #[.pointer (some ⟨D, 0, none⟩)] w fun e w' => e = .returned (.int .i64 z) ∧ ∃ q, w' = w.drewN q := by
  have hI := h.ints
  obtain ⟨b1, o1, rfl, hc1⟩ := hI.at_ (Nat.lt_succ_self k)
  rw [show es[k]?.getD 0 = z by rw [hz]; rfl] at hc1
  have c4 := h.blk.box.2.2 4 _ rfl
  have hcap := h.cap
  have hk : k + 1 ≤ 9223372036854775807 := by omega
  clear h hI hz hcap
  go_enter Tryz.func38, Tryz.ntmps38
  go_wp2_with fail
  go_quiet (fail)
  go_wp2_with fail
  go_ret
  exact ⟨rfl, _, rfl⟩
theorem pend_to {base D : Nat} {w : World} {s : Sm} {A : Option Addr} {k c : Nat} {es : List Int} {z : Int} (h : Cnt base D w s A (k + 1) c es) (hz : es[k]? = some z) : Calls Tryz.prog 38 #[.pointer (some ⟨D, 0, none⟩)] w fun e w' => e = .returned (.int .i64 z) ∧ ∃ q, w' = w.drewN q := pend_any base D w s A k c es z h hz
theorem Cnt.drewN {base D : Nat} {w : World} {s : Sm} {A : Option Addr} {k c : Nat} {es : List Int} (h : Cnt base D w s A k c es) (q : Nat) : Cnt base D (w.drewN q) s A k c es := h.on (below_drewN (Below.refl _ _) q)
set_option maxHeartbeats 4000000 in
theorem pleave_any (base D : Nat) (w : World) (s : Sm) (A : Option Addr) (c : Nat) (ks : List Int) (i z : Int) (m : Nat) (h : Cnt base D w s A (ks.length + m) c (ks ++ List.replicate m i)) (hz : ks.getLast? = some z) (hne : z ≠ i) :
    Calls Tryz.prog 36 #[.pointer (some ⟨D, 0, none⟩), .int .i64 i] w fun e w' => e = .returned (.tuple #[]) ∧ Cnt base D w' s A ks.length c ks ∧ OnlyAt D w w' := by
  have H := Lib.hid h
  have HZ := Lib.hid hz
  have HN := Lib.hid hne
  clear h hz hne
  go_enter Tryz.func36, Tryz.ntmps36
  go_wp2_with fail
  go_loopg [] m (fun k wr => k ≤ m ∧ Cnt base D wr s A (ks.length + k) c (ks ++ List.replicate k i) ∧ OnlyAt D w wr)
  case atStart => exact ⟨Nat.le_refl _, H.out, OnlyAt.refl _ _⟩
  case round =>
    obtain ⟨hk, hC, hO⟩ := hrel
    have HC := Lib.hid hC
    have HO := Lib.hid hO
    clear hC hO
    cases gk with
    | zero =>
      obtain ⟨j, hj⟩ : ∃ j, ks.length = j + 1 := ⟨ks.length - 1, by
        have : ks ≠ [] := fun e => by rw [e] at HZ; cases HZ.out
        have := List.length_pos_iff.2 this
        omega⟩
      have hC := HC.out
      simp only [Nat.add_zero, List.replicate_zero, List.append_nil] at hC
      have HC1 := Lib.hid hC
      have hC2 : Cnt base D wr s A (j + 1) c ks := by rw [← hj]; exact hC
      have hz2 : ks[j]? = some z := by rw [← HZ.out, List.getLast?_eq_getElem?, hj]; rfl
      have HC2 := Lib.hid hC2
      have HZ2 := Lib.hid hz2
      have hzi : (z == i) = false := by simpa using HN.out
      clear hC hC2 hz2 hj
      go_wp2_with fail
      refine (pend_to HC2.out HZ2.out).mono ?_
      rintro e w1 ⟨rfl, q, rfl⟩
      go_wp2_with fail
      go_returns
      exact ⟨rfl, HC1.out.drewN q, HO.out.drewN q⟩
    | succ g =>
      obtain ⟨r, hr⟩ : ∃ r, ks.length + g = r := ⟨_, rfl⟩
      have hC2 : Cnt base D wr s A (r + 1) c (ks ++ List.replicate (g + 1) i) := by rw [← hr]; exact HC.out
      have hz2 : (ks ++ List.replicate (g + 1) i)[r]? = some i := by
        rw [List.getElem?_append_right (by omega), List.getElem?_replicate]
        rw [if_pos (by omega)]
      have HC2 := Lib.hid hC2
      have HZ2 := Lib.hid hz2
      have HR := Lib.hid hr
      clear hC2 hz2 hr
      go_wp2_with fail
      refine (pend_to HC2.out HZ2.out).mono ?_
      rintro e w1 ⟨rfl, q, rfl⟩
      have hC3 := HC2.out.drewN q
      have hO3 := HO.out.drewN q
      generalize wr.drewN q = V at hC3 hO3
      have c4 := hC3.blk.box.2.2 4 _ rfl
      have f4 := hC3.blk.box.2.1 4
      have hcap := hC3.cap
      have hlt := hC3.blk.box.1
      obtain ⟨hc1, hc2⟩ := hcap
      have HC3 := Lib.hid hC3
      have HO3 := Lib.hid hO3
      clear hC3 hO3
      go_wp2_with fail
      go_region
      go_wp2_with fail
      go_roundg g
      case rel =>
        have hO4 : OnlyAt D V (V.setCell ⟨D, 4, none⟩ (.slice A r c)).drew := ((OnlyAt.refl D V).set 4 _).drew
        refine ⟨by omega, ⟨?_, ?_⟩, (HO3.out.set 4 _).drew⟩
        · rw [HR.out]
          exact (HC3.out.blk.set 4 (.slice A r c)).drew
        · have h1 := owns_take HC3.out.row (Nat.le_succ r)
          have h2 := owns_only h1 hO4 HC3.out.blk (by decide)
          have e : ((ks ++ List.replicate (g + 1) i).map (Value.int .i64)).take r = (ks ++ List.replicate g i).map (Value.int .i64) := by
            rw [← List.map_take]
            congr 1
            rw [← HR.out, List.take_length_add_append, List.take_replicate]
            congr 2
            omega
          rw [e] at h2
          rw [HR.out]
          exact h2
      case measure => omega
end Go.Proofs.YtechccoongilcaaGreatDoor
/- The program's writer: numbers, and rows of them. -/
namespace Go.Proofs.YtechccoongilcaaGreatDoor
open Go.RowKit
set_option linter.unusedVariables false
set_option linter.unusedSimpArgs false
set_option maxHeartbeats 1000000 in
set_option maxRecDepth 100000 in
theorem pen_number {B b : Nat} {l : List UInt8} {w : World} (z : Int) (h : Pen B b l w) (h0 : 0 ≤ z) (h1 : z ≤ 1099511627776) (hr : Room l 13) :
    Calls Tryz.prog 52 #[.pointer (some ⟨b, 0, none⟩), .int .i64 z] w fun e w' => e = .returned (.tuple #[]) ∧ Wrote B b l [.n z.toNat] w w' := by
  have H := Lib.hid h
  have HR := Lib.hid hr
  have HI := Lib.hid (show ∀ p : OnW w, Calls Tryz.prog 84 #[.int .i64 z] p.w fun e w' => e = .returned (.string (digS z.toNat)) ∧ Below p.w.heap.size p.w w' from fun p => itoa_on h.2.1 h.2.2 p h0 h1)
  have hf : (Pc.n z.toNat).fine := by show z.toNat ≤ 1099511627776; omega
  have HL := Lib.hid (show (digS z.toNat).size ≤ 13 from Nat.le_trans (Nat.le_of_eq (bytesOf_size _)) (pc_len hf))
  clear h hr hf
  go_enter Tryz.func52, Tryz.ntmps52
  go_wp2_with fail
  refine wp_region_on_tail 5 (by kernel_rfl) (by kernel_rfl) rfl (by kernel_rfl) ?_
  simp only [headOf, List.take_succ_cons, List.take_zero, List.getElem_toArray, List.getElem_cons_succ, List.getElem_cons_zero]
  repeat (go_big_quiet_step ((go_at_call 84; with_reducible exact Calls.on_of (HI.out _))))
  refine wpQuiet_nil ?_
  intro w3 hw'
  obtain ⟨⟨w', hOn⟩, hw''⟩ := hw'
  obtain rfl : w3 = w' := hw''
  have HP := Lib.hid (H.out.below hOn)
  have HO := Lib.hid hOn
  clear hOn
  go_wp2_with fail
  refine (wr_string B b l _ _ HP.out.1 (by have := HR.out; have := HL.out; unfold Room at *; omega) HP.out.2.2).mono ?_
  rintro e w4 ⟨rfl, hw, hk⟩
  have HQ := Lib.hid (show Wrote B b l [.n z.toNat] w w4 from Wrote.ahead H.out.2.2 HO.out ⟨by rw [uL_n]; exact HP.out.kept hw hk, hk⟩)
  clear hw hk
  go_wp2_with fail
  go_end0
  exact ⟨rfl, HQ.out⟩
/-- whole numbers that stay, whatever is written. -/
def IntsK (B b : Nat) (w : World) (A : Option Addr) (n : Nat) (zs : List Int) : Prop := ∀ w', Kept B b w w' → Ints w' A n zs
theorem IntsK.on {B b : Nat} {w w' : World} {A : Option Addr} {n : Nat} {zs : List Int} (h : IntsK B b w A n zs) (hk : Kept B b w w') : IntsK B b w' A n zs := fun v hv => h v (hk.trans hv)
theorem wordsP_snoc {zs : List Int} {k : Nat} (hk : k < zs.length) : wordsP (zs.take (k + 1)) = wordsP (zs.take k) ++ [.b 32, .n (zs[k]?.getD 0).toNat] := by
  rw [List.take_succ_eq_append_getElem hk]
  unfold wordsP
  rw [List.flatMap_append, List.getElem?_eq_getElem hk]
  simp
theorem words_text (zs : List Int) (hz : ∀ z ∈ zs, 0 ≤ z ∧ z ≤ 1099511627776) : (textOf (wordsP zs)).length ≤ 14 * zs.length := by
  induction zs with
  | nil => simp [wordsP, textOf]
  | cons z zs ih =>
    have h1 := ih (fun y hy => hz y (by simp [hy]))
    have h2 := hz z (by simp)
    have h3 := pc_len (p := .n z.toNat) (by show z.toNat ≤ 1099511627776; omega)
    have e : textOf (wordsP (z :: zs)) = [32] ++ (Pc.n z.toNat).bytes ++ textOf (wordsP zs) := by simp [wordsP, textOf, Pc.bytes]
    rw [e]
    simp only [List.length_append, List.length_cons, List.length_nil]
    omega
set_option maxHeartbeats 1000000 in
set_option maxRecDepth 100000 in
theorem pen_numbers {B b : Nat} {l : List UInt8} {w : World} (A : Option Addr) (n c : Nat) (zs : List Int) (h : Pen B b l w) (hI : IntsK B b w A n zs) (hz : ∀ z ∈ zs, 0 ≤ z ∧ z ≤ 1099511627776) (hr : Room l (14 * n)) :
    Calls Tryz.prog 53 #[.pointer (some ⟨b, 0, none⟩), .slice A n c] w fun e w' => e = .returned (.tuple #[]) ∧ Wrote B b l (wordsP zs) w w' := by
  have hla := (hI w (Kept.refl _ _ _)).1
  have hn63 := (hI w (Kept.refl _ _ _)).2.1
  have H := Lib.hid h
  have HI := Lib.hid hI
  have HZ := Lib.hid hz
  have HR := Lib.hid hr
  clear h hI hz hr
  go_enter Tryz.func53, Tryz.ntmps53
  go_wp2_with fail
  go_loopw [5, 8] (fun _ i wr => ∃ k : Nat, k ≤ n ∧ i = .int .i64 k ∧ Wrote B b l (wordsP (zs.take k)) w wr) (fun _ i _ => n - (intOf i).toNat)
  case atStart => exact ⟨0, by omega, rfl, by rw [List.take_zero]; exact Wrote.nil H.out⟩
  case round =>
    obtain ⟨k, hk, rfl, hw⟩ := hrel
    have HW := Lib.hid hw
    clear hw
    by_cases hlt : k < n
    · obtain ⟨z, hzk⟩ : ∃ z, zs[k]?.getD 0 = z := ⟨_, rfl⟩
      have hI1 := HI.out _ HW.out.2
      obtain ⟨b1, o1, rfl, hc⟩ := hI1.at_ hlt
      rw [hzk] at hc
      have hk2 : (k : Int) < (n : Int) := by omega
      have hbd : 0 ≤ z ∧ z ≤ 1099511627776 := by
        rw [← hzk, List.getElem?_eq_getElem (by omega : k < zs.length)]
        exact HZ.out _ (List.getElem_mem _)
      obtain ⟨z0, z1⟩ := hbd
      have hlen : (textOf (wordsP (zs.take k))).length ≤ 14 * k := by
        have := words_text (zs.take k) (fun y hy => HZ.out y (List.mem_of_mem_take hy))
        rw [List.length_take] at this
        omega
      have HR2 := Lib.hid (show Room (l ++ uL (wordsP (zs.take k))) 14 from (HR.out.less (j := (textOf (wordsP (zs.take k))).length + 14) (by omega)).on)
      have HS := Lib.hid (show wordsP (zs.take (k + 1)) = wordsP (zs.take k) ++ [.b 32] ++ [.n z.toNat] by rw [wordsP_snoc (by omega), hzk]; simp)
      clear hI1 hzk hlen
      go_wp2_with fail
      refine (pen_byte 32 (.b 32) rfl (by decide) HW.out.1 (HR2.out.less (by decide))).mono ?_
      rintro e w2 ⟨rfl, hw2⟩
      have HW2 := Lib.hid (HW.out.trans hw2)
      clear hw2
      go_wp2_with fail
      refine (pen_number z HW2.out.1 z0 z1 (by have := HR2.out; unfold Room at *; rw [uL_append, ← List.append_assoc, List.length_append, uL_len]; show _ + 1 + 13 ≤ _; omega)).mono ?_
      rintro e w3 ⟨rfl, hw3⟩
      have HW3 := Lib.hid (HW2.out.trans hw3)
      clear hw3
      go_wp2_with fail
      go_roundw
      case rel => exact ⟨k + 1, by omega, by go_num, by rw [HS.out]; exact HW3.out⟩
      case measure => simp [intOf]; omega
    · have hk2 : (n : Int) ≤ (k : Int) := by omega
      have HQ := Lib.hid (show Wrote B b l (wordsP zs) w wr by have := HW.out; rwa [List.take_of_length_le (by omega)] at this)
      go_wp2_with fail
      go_end0
      exact ⟨rfl, HQ.out⟩
end Go.Proofs.YtechccoongilcaaGreatDoor
/- The program's package read: a block's attributes. -/
namespace Go.Proofs.YtechccoongilcaaGreatDoor
open Go.RowKit Go.ChangeMaps
set_option linter.unusedVariables false
set_option linter.unusedSimpArgs false
theorem Bar.then {g B : Nat} {w w' w'' : World} (h : Bar g w w') (hb : Below B w' w'') (hB : w.heap.size ≤ B) : Bar g w w'' :=
  ⟨hb.os.trans h.os, hb.tape.trans h.tape, hb.output.trans h.output, Nat.le_trans h.size hb.size, fun k hk hg => (hb.block k (by omega)).trans (h.block k hk hg)⟩
theorem rcells_with {s : Sty} {c : Int} (hc : c ∈ lettersB) (n : Int) (left row opn mp : Value) (size : Int) (wr : Bool) : (rcells left size wr row opn s mp).set (5 + posB c) (.int .i64 n) = rcells left size wr row opn (withB s c n) mp := by
  simp only [lettersB, List.mem_cons, List.not_mem_nil, or_false] at hc
  rcases hc with rfl | rfl | rfl | rfl | rfl | rfl | rfl | rfl | rfl | rfl | rfl | rfl <;> rfl
theorem find_sg {l : List Tok} {i : Nat} {x y u z : Int} (hx : l[i]? = some ⟨x, y, u, z⟩) (cs : List Int) : cs.find? (sgB l i) = if x = 1 ∧ y ∈ cs then some y else none := by
  have hs : ∀ c, sgB l i c = (x == 1 && y == c) := fun c => by unfold sgB; rw [hx]
  induction cs with
  | nil => simp
  | cons c cs ih =>
    rw [List.find?_cons, hs, ih]
    by_cases h1 : x = 1
    · by_cases h2 : y = c
      · subst h2; simp [h1]
      · have : (y == c) = false := by simpa using h2
        simp [h1, this, h2]
    · have : (x == 1) = false := by simpa using h1
      simp [this, h1]
theorem letterB_at {l : List Tok} {i : Nat} {x y u z : Int} (hx : l[i]? = some ⟨x, y, u, z⟩) (told : List Int) : letterB l i told = if x = 1 ∧ y ∈ lettersB then (if y ∈ told then 0 else y) else 0 := by
  unfold letterB
  rw [find_sg hx]
  by_cases h : x = 1 ∧ y ∈ lettersB
  · rw [if_pos h, if_pos h]
  · rw [if_neg h, if_neg h]
/-- what is told wrong there. -/
def AttrsBad (toks : List Tok) (i a : Nat) : Prop := Attrs toks i .plain [] (.bad a) ∨ ∃ s, Attrs toks i .plain [] (.ok s a) ∧ ∀ c, sgB toks a c = false
/-- attributes are read up to j: what holds there. -/
def AtJ (toks : List Tok) (i j : Nat) (b : Bool) (s : Sty) (zs : List Int) : Prop := (b = false → ∀ r, Attrs toks j s zs r → Attrs toks i .plain [] r) ∧ (b = true → AttrsBad toks i j)
theorem AtJ.stop {toks : List Tok} {i j : Nat} {b : Bool} {s : Sty} {zs : List Int} (h : AtJ toks i j b s zs) (h0 : b = false → letterB toks j zs = 0) : (b = false → Attrs toks i .plain [] (.ok s j)) ∧ (b = true → AttrsBad toks i j) :=
  ⟨fun e => h.1 e _ (.stop (h0 e)), h.2⟩
theorem AtJ.step {toks : List Tok} {i j : Nat} {s : Sty} {zs : List Int} (h : AtJ toks i j false s zs) {x y u z : Int} (hx : toks[j]? = some ⟨x, y, u, z⟩) (hy : y ∈ lettersB) (hn : y ∉ zs) {j1 j2 : Nat} {b1 b2 : Bool} {n : Int}
    (h1 : mustS toks j false y = (j1, b1)) (h2 : numS toks j1 b1 (limitB y).1 (limitB y).2 = (n, j2, b2)) : AtJ toks i j2 b2 (withB s y n) (zs ++ [y]) ∧ (if b2 then j ≤ j2 else j2 = j + 2) ∧ j2 ≤ toks.length := by
  have hlt := (List.getElem?_eq_some_iff.1 hx).1
  have hs : ∀ c, sgB toks j c = (x == 1 && y == c) := fun c => by unfold sgB; rw [hx]
  have hl := letterB_at hx zs
  have hy0 : y ≠ 0 := by intro e; subst e; revert hy; decide
  by_cases hk : x = 1
  · have hly : letterB toks j zs = y := by rw [hl, if_pos ⟨hk, hy⟩, if_neg hn]
    have hm : mustS toks j false y = (j + 1, false) := by unfold mustS; rw [hs]; simp [hk]
    rw [hm] at h1
    cases h1
    by_cases hnm : nmB toks (j + 1) (limitB y).1 (limitB y).2 = true
    · have : numS toks (j + 1) false (limitB y).1 (limitB y).2 = (nAt toks (j + 1), j + 1 + 1, false) := by unfold numS; simp [hnm]
      rw [this] at h2
      cases h2
      refine ⟨⟨fun _ r hr => h.1 rfl r (.step (by rw [hly]; exact hy0) (by rw [hly]; exact hnm) (by rw [hly]; exact hr)), fun e => by cases e⟩, rfl, ?_⟩
      exact nmB_lt hnm
    · have hnm : nmB toks (j + 1) (limitB y).1 (limitB y).2 = false := by simpa using hnm
      have : numS toks (j + 1) false (limitB y).1 (limitB y).2 = (0, j + 1, true) := by unfold numS; simp [hnm]
      rw [this] at h2
      cases h2
      refine ⟨⟨fun e => (by cases e), fun _ => .inl (h.1 rfl _ (.bad (by rw [hly]; exact hy0) (by rw [hly]; exact hnm)))⟩, ?_, hlt⟩
      simp
  · have hk' : (x == 1) = false := by simpa using hk
    have hm : mustS toks j false y = (j, true) := by unfold mustS; rw [hs]; simp [hk']
    rw [hm] at h1
    cases h1
    have : numS toks j true (limitB y).1 (limitB y).2 = (0, j, true) := by unfold numS; simp
    rw [this] at h2
    cases h2
    refine ⟨⟨fun e => (by cases e), fun _ => .inr ⟨s, h.1 rfl _ (.stop (by rw [hl, if_neg (fun q => hk q.1)])), fun c => by rw [hs, hk']; rfl⟩⟩, ?_, by omega⟩
    simp
theorem info_i32 : (Tryz.prog.info? 21).map (fun i => (i.zero, i.size, i.bytes)) = some (some (.int .i32 0), 1, 4) := by kernel_rfl
end Go.Proofs.YtechccoongilcaaGreatDoor
/- The program's package read: a float. -/
namespace Go.Proofs.YtechccoongilcaaGreatDoor
open Go.RowKit
set_option linter.unusedVariables false
set_option linter.unusedSimpArgs false
theorem thing_float {toks : List Tok} {size : Int} {g : Nat} {w : World} {i j0 j1 j2 : Nat} {b0 b1 b2 : Bool} {n0 n1 n2 : Int} {row opn : Value} {s : Sty} {mp : Value} (ho : sgB toks i 60 = true)
    (hv0 : sideS toks (i + 1) false = (n0, j0, b0)) (hv1 : numS toks j0 b0 1 maxN = (n1, j1, b1)) (hv2 : numS toks j1 b1 1 maxN = (n2, j2, b2)) (h : Rd toks size g w i false row opn s mp) :
    Calls Tryz.prog 48 #[.pointer (some ⟨g, 0, none⟩)] w fun e w' => e = .returned (.iface 129 (.agg #[.int .i64 n0, .int .i64 n1, .int .i64 n2])) ∧ Bar g w w' ∧ Rd toks size g w' j2 b2 row opn s mp := by
  have H1 := Lib.hid (sgB_one ho (show (60 : Int) ≠ 91 by decide))
  have H2 := Lib.hid (sgB_one ho (show (60 : Int) ≠ 40 by decide))
  have H3 := Lib.hid (sgB_one ho (show (60 : Int) ≠ 123 by decide))
  have H4 := Lib.hid ho
  have HV0 := Lib.hid hv0
  have HV1 := Lib.hid hv1
  have HV2 := Lib.hid hv2
  have HR := Lib.hid h
  have HB := Lib.hid (Bar.refl g w)
  clear ho hv0 hv1 hv2 h
  go_enter Tryz.func48, Tryz.ntmps48
  go_wp2_with fail
  refine (psign_no (by rw [H1.out]; rfl) HR.out).mono ?_
  rintro e w1 ⟨rfl, hb, hs1, hr⟩
  have HR := Lib.hid hr
  have HB := Lib.hid (HB.out.trans hb)
  clear hb hr
  go_wp2_with fail
  refine (psign_no (by rw [H2.out]; rfl) HR.out).mono ?_
  rintro e w2 ⟨rfl, hb, hs2, hr⟩
  have HR := Lib.hid hr
  have HB := Lib.hid (HB.out.trans hb)
  clear hb hr
  go_wp2_with fail
  refine (psign_no (by rw [H3.out]; rfl) HR.out).mono ?_
  rintro e w3 ⟨rfl, hb, hs3, hr⟩
  have HR := Lib.hid hr
  have HB := Lib.hid (HB.out.trans hb)
  clear hb hr
  go_wp2_with fail
  refine (psign_yes H4.out HR.out).mono ?_
  rintro e w4 ⟨rfl, hb, hs4, hr⟩
  have HR := Lib.hid (hr.bar (Bar.refl g _).drew rfl)
  have HB := Lib.hid (HB.out.trans hb).drew
  clear hb hr
  go_wp2_with fail
  go_region_held3 (fun _ => True) (trivial) (first
    | (go_at_call 79; ((with_reducible refine (pside_to HV0.out HR.out).mono ?_); rintro e w5 ⟨rfl, hb, hs5, hr⟩; have HR0 := Lib.hid hr; have HB0 := Lib.hid (HB.out.trans hb); clear hb hr))
    | (go_at_call 78; ((with_reducible refine (plen_to HV1.out HR0.out).mono ?_); rintro e w6 ⟨rfl, hb, hs6, hr⟩; have HR1 := Lib.hid hr; have HB1 := Lib.hid (HB0.out.trans hb); clear hb hr))
    | (go_at_call 78; ((with_reducible refine (plen_to HV2.out HR1.out).mono ?_); rintro e w7 ⟨rfl, hb, hs7, hr⟩; have HR2 := Lib.hid hr; have HB2 := Lib.hid (HB1.out.trans hb); clear hb hr)))
  go_wp2_with fail
  go_ret
  exact ⟨rfl, HB2.out, HR2.out⟩
end Go.Proofs.YtechccoongilcaaGreatDoor
/- The document's Own: nodes in memory of their own. (Written by program: tools/drafts/genown.py.) -/
namespace Go.Proofs.YtechccoongilcaaGreatDoor
open Go.RowKit
set_option linter.unusedVariables false
set_option linter.unusedSimpArgs false
theorem int_infoOwn : (Tryz.prog.info? 3).map (fun i => (i.zero, i.size, i.bytes)) = some (some (.int .i64 0), 1, 8) := by kernel_rfl
set_option maxHeartbeats 4000000 in
set_option maxRecDepth 100000 in
theorem rown_any (l : List Nd) (A : Option Addr) (n ca : Nat) (w : World) (hl : Sees w A n l) (hn : n ≤ 600000) (hW : ∀ x ∈ l, x.words.length ≤ 600000) : Calls Tryz.prog 7 #[.slice A n ca] w fun e w' => ∃ A' c', e = .returned (.slice A' n c') ∧ Nds w.heap.size w' A' n l ∧ Below w.heap.size w w' := by
  obtain ⟨j0, hj0, hy0, hy1, hy2⟩ := info_parts node_info5
  obtain ⟨i0, hi0, hz0, hz1, hz2⟩ := info_parts int_infoOwn
  have hla := hl.len
  have HA := Lib.hid hl
  have HWd := Lib.hid hW
  clear hl hW
  obtain ⟨D, hD⟩ : ∃ D, w.heap.size = D := ⟨_, rfl⟩
  rw [hD]
  go_enter Tryz.func7, Tryz.ntmps7
  go_wp2_with fail
  go_loopw [3, 4] (fun o i wr => ∃ (k c1 : Nat) (A1 : Option Addr) (zs : List NdM), k ≤ n ∧ i = .int .i64 k ∧ o = .slice A1 k c1 ∧ wr.ownsRow D 36 20 (.slice A1 k c1) k (zs.flatMap encM) ∧ Holds2 D wr zs (l.take k) ∧ On w wr) (fun _ i _ => n - (intOf i).toNat)
  case atStart => exact ⟨0, 0, none, [], by omega, rfl, rfl, owns_nil _ _ _ _, by simpa using Holds2.nil D w, On.refl w⟩
  case round =>
    obtain ⟨k, c1, A1, zs, hk, rfl, rfl, hown, hh, hon⟩ := hrel
    have HOw := Lib.hid hown
    have HH := Lib.hid hh
    have HO := Lib.hid hon
    have hsz := hon.size
    clear hown hh hon
    by_cases hlt : k < n
    · obtain ⟨b1, o1, m1, x1, rfl, hb1, e1, r1, s1⟩ := (HA.out.on HO.out).at_ hlt
      have hk2 : (k : Int) < (n : Int) := by omega
      have R1 := Lib.hid (range_on r1)
      have S1 := Lib.hid s1
      have E1 := Lib.hid e1
      have hwl : m1.n ≤ 600000 := by rw [← s1.2.1]; exact HWd.out _ (List.mem_of_getElem? e1)
      clear r1 s1 e1
      go_wp2_with (first | ((with_reducible refine stop_load 36 (.tmp 14) ?_ ?_); exact rfl; refine Stop.intro ?_; refine wpList_load_mid rfl 36 (.tmp 14) rfl b1 (o1 + k * 20) rfl (encM m1) _ (R1.out wr (On.refl wr)) Tryz.underlying36 rfl (by kernel_rfl) ?_) | ((with_reducible refine stop_store 36 (.tmp 5) (.tmp 15) ?_ ?_); exact rfl))
      refine Stop.intro ?_
      refine wpList_store_row rfl 36 (.tmp 5) (.tmp 15) rfl wr.heap.size rfl 36 #[.int .i64 0, .int .i64 0, .int .i64 0, .int .i64 0, .int .i64 0, .int .i64 0, .int .i64 0, .int .i64 0, .int .i64 0, .int .i64 0, .int .i64 0, .int .i64 0, .int .i64 0, .int .i64 0, .int .i64 0, .int .i64 0, .slice none 0 0, .int .i64 0, .int .i64 0, .int .i64 0] (encM m1).toArray rfl (Blk.new wr 36 [.int .i64 0, .int .i64 0, .int .i64 0, .int .i64 0, .int .i64 0, .int .i64 0, .int .i64 0, .int .i64 0, .int .i64 0, .int .i64 0, .int .i64 0, .int .i64 0, .int .i64 0, .int .i64 0, .int .i64 0, .int .i64 0, .slice none 0 0, .int .i64 0, .int .i64 0, .int .i64 0] _ rfl _ rfl) (by kernel_rfl) rfl (by rw [List.all_toArray]; exact List.all_eq_true.2 (encM_one m1)) ?_
      intro V hV
      have hVs : V.heap.size = wr.heap.size + 1 := by rw [hV, setRow_size]; simp
      have hbV : On wr V := by rw [hV]; exact below_setRow ((Below.refl _ _).alloc (Nat.le_refl _) _) (Nat.le_refl _) _
      have HK1 := Lib.hid (show Blk V wr.heap.size 36 (encM m1) by rw [hV]; exact Blk.row (Blk.new wr 36 [.int .i64 0, .int .i64 0, .int .i64 0, .int .i64 0, .int .i64 0, .int .i64 0, .int .i64 0, .int .i64 0, .int .i64 0, .int .i64 0, .int .i64 0, .int .i64 0, .int .i64 0, .int .i64 0, .int .i64 0, .int .i64 0, .slice none 0 0, .int .i64 0, .int .i64 0, .int .i64 0] _ rfl _ rfl) _ _ rfl)
      have x16 : V.cell? ⟨b1, o1 + k * 20 + 16, none⟩ = some (.slice m1.A m1.n m1.c) := R1.out V hbV 16 _ rfl
      clear hV
      go_wp2_with ((with_reducible refine stop_dst 22 ?_ ?_); exact rfl)
      refine Stop.intro ?_
      have hbU : On wr (V.alloc (.cells #[] 3)) := On.alloc hbV _
      have hO0 : (V.alloc (.cells #[] 3)).ownsRow (wr.heap.size + 1) 3 1 (.slice (some ⟨wr.heap.size + 1, 0, none⟩) 0 0) 0 [] := ⟨rfl, .inr ⟨wr.heap.size + 1, 0, #[], rfl, Nat.le_refl _, by rw [← hVs]; exact World.alloc_heap_new V _, Nat.le_refl _, Nat.zero_le _, rfl, rfl⟩⟩
      have hI := (S1.out.below hbU).2
      have hIc := hI.cells
      have hIl := hI.1
      have hUs : (V.alloc (.cells #[] 3)).heap.size = wr.heap.size + 2 := by simp; omega
      refine wpList_append_cells _ rfl (.tmp 16) (.tmp 21) _ rfl (wr.heap.size + 1) 3 i0 (.int .i64 0) 1 8 Tryz.underlying34 hi0 hz0 hz1 hz2 rfl (by decide) (.slice (some ⟨wr.heap.size + 1, 0, none⟩) 0 0) 0 _ rfl hO0 m1.A m1.n m1.c _ rfl hIc (by intro u hu; obtain ⟨z, _, rfl⟩ := List.mem_map.1 hu; rfl) (by unfold maxLen; omega) (by omega) (by rw [hUs]; omega) ?_
      intro A2 c2 V2 hown2 hg2
      rw [Nat.zero_add] at hown2
      have hV2s : wr.heap.size + 2 ≤ V2.heap.size := by rw [← hUs]; exact hg2.size
      have hbV2 : On wr V2 := hbU.grown hg2 (by rw [hUs]; omega) (fun r e => by cases e; simp only; omega)
      have hK2 : Blk V2 wr.heap.size 36 (encM m1) := (HK1.out.alloc _).grown hg2 (fun r e => by cases e; simp only; omega)
      let m2 : NdM := { m1 with A := A2, c := c2 }
      have hK3 : Blk (V2.setCell ⟨wr.heap.size, 16, none⟩ (.slice A2 m1.n c2)) wr.heap.size 36 (encM m2) := hK2.set 16 _
      have hb3 : On wr (V2.setCell ⟨wr.heap.size, 16, none⟩ (.slice A2 m1.n c2)) := Below.setCell hbV2 (p := ⟨wr.heap.size, 16, none⟩) (Nat.le_refl _) _
      have hw3 := owns_set hown2 (m := wr.heap.size) (by omega) 16 (.slice A2 m1.n c2)
      have f16 := hK2.box.2.1 16
      have g16 := hK2.box.2.2 16 _ rfl
      have HK3 := Lib.hid hK3
      have HB3 := Lib.hid hb3
      have HW3 := Lib.hid hw3
      clear hK2 hK3 hb3 hw3 hown2 hg2 hO0 hI hIc hbU hbV hbV2 HK1 x16
      simp only [Nat.zero_add]
      go_wp2_with (first | ((with_reducible refine stop_load 36 (.tmp 5) ?_ ?_); exact rfl; refine Stop.intro ?_; refine Go.Proofs.YtechccoongilcaaGreatDoor.wpList_load_row rfl 36 (.tmp 5) rfl (wr.heap.size) rfl 36 #[.int .i64 m1.kind, .int .i64 m1.size, .int .i64 m1.sty.top, .int .i64 m1.sty.bottom, .int .i64 m1.sty.padTop, .int .i64 m1.sty.padBottom, .int .i64 m1.sty.inset, .int .i64 m1.sty.orphans, .int .i64 m1.sty.widows, .int .i64 m1.sty.head, .int .i64 m1.sty.before, .int .i64 m1.sty.after, .int .i64 m1.sty.inside, .int .i64 m1.sty.clear, .int .i64 m1.line, .int .i64 m1.space, .slice A2 m1.n c2, .int .i64 m1.side, .int .i64 m1.w, .int .i64 m1.h] _ (HK3.out) Tryz.underlying36 rfl (by kernel_rfl) ?_) | ((with_reducible refine stop_dst 27 ?_ ?_); exact rfl))
      refine Stop.intro ?_
      have hV3s : (V2.setCell ⟨wr.heap.size, 16, none⟩ (.slice A2 m1.n c2)).heap.size = V2.heap.size := by simp
      have hO4 : ((V2.setCell ⟨wr.heap.size, 16, none⟩ (.slice A2 m1.n c2)).alloc (.cells #[.int .i64 m1.kind, .int .i64 m1.size, .int .i64 m1.sty.top, .int .i64 m1.sty.bottom, .int .i64 m1.sty.padTop, .int .i64 m1.sty.padBottom, .int .i64 m1.sty.inset, .int .i64 m1.sty.orphans, .int .i64 m1.sty.widows, .int .i64 m1.sty.head, .int .i64 m1.sty.before, .int .i64 m1.sty.after, .int .i64 m1.sty.inside, .int .i64 m1.sty.clear, .int .i64 m1.line, .int .i64 m1.space, .slice A2 m1.n c2, .int .i64 m1.side, .int .i64 m1.w, .int .i64 m1.h] 36)).ownsRow D 36 20 (.slice A1 k c1) k (zs.flatMap encM) := owns_below (owns_below HOw.out HB3.out) ((Below.refl _ _).alloc (Nat.le_refl _) _)
      have hb4 : On wr ((V2.setCell ⟨wr.heap.size, 16, none⟩ (.slice A2 m1.n c2)).alloc (.cells #[.int .i64 m1.kind, .int .i64 m1.size, .int .i64 m1.sty.top, .int .i64 m1.sty.bottom, .int .i64 m1.sty.padTop, .int .i64 m1.sty.padBottom, .int .i64 m1.sty.inset, .int .i64 m1.sty.orphans, .int .i64 m1.sty.widows, .int .i64 m1.sty.head, .int .i64 m1.sty.before, .int .i64 m1.sty.after, .int .i64 m1.sty.inside, .int .i64 m1.sty.clear, .int .i64 m1.line, .int .i64 m1.space, .slice A2 m1.n c2, .int .i64 m1.side, .int .i64 m1.w, .int .i64 m1.h] 36)) := On.alloc HB3.out _
      have hc4 : Cells ((V2.setCell ⟨wr.heap.size, 16, none⟩ (.slice A2 m1.n c2)).alloc (.cells #[.int .i64 m1.kind, .int .i64 m1.size, .int .i64 m1.sty.top, .int .i64 m1.sty.bottom, .int .i64 m1.sty.padTop, .int .i64 m1.sty.padBottom, .int .i64 m1.sty.inset, .int .i64 m1.sty.orphans, .int .i64 m1.sty.widows, .int .i64 m1.sty.head, .int .i64 m1.sty.before, .int .i64 m1.sty.after, .int .i64 m1.sty.inside, .int .i64 m1.sty.clear, .int .i64 m1.line, .int .i64 m1.space, .slice A2 m1.n c2, .int .i64 m1.side, .int .i64 m1.w, .int .i64 m1.h] 36)) (some ⟨V2.heap.size, 0, none⟩) 1 20 (encM m2) := by
        have h := ownsRow_cells (owns_one (w := V2.setCell ⟨wr.heap.size, 16, none⟩ (.slice A2 m1.n c2)) (e := 36) (size := 20) (base := 0) (encM m2) rfl (by decide) (Nat.zero_le _) (encM_one m2) _ rfl _ rfl)
        rw [hV3s] at h
        exact h
      have hw4 := owns_below HW3.out ((Below.refl _ _).alloc (Nat.le_refl _) (.cells #[.int .i64 m1.kind, .int .i64 m1.size, .int .i64 m1.sty.top, .int .i64 m1.sty.bottom, .int .i64 m1.sty.padTop, .int .i64 m1.sty.padBottom, .int .i64 m1.sty.inset, .int .i64 m1.sty.orphans, .int .i64 m1.sty.widows, .int .i64 m1.sty.head, .int .i64 m1.sty.before, .int .i64 m1.sty.after, .int .i64 m1.sty.inside, .int .i64 m1.sty.clear, .int .i64 m1.line, .int .i64 m1.space, .slice A2 m1.n c2, .int .i64 m1.side, .int .i64 m1.w, .int .i64 m1.h] 36))
      have hh4 := (HH.out.below HB3.out).below ((Below.refl _ _).alloc (Nat.le_refl _) (.cells #[.int .i64 m1.kind, .int .i64 m1.size, .int .i64 m1.sty.top, .int .i64 m1.sty.bottom, .int .i64 m1.sty.padTop, .int .i64 m1.sty.padBottom, .int .i64 m1.sty.inset, .int .i64 m1.sty.orphans, .int .i64 m1.sty.widows, .int .i64 m1.sty.head, .int .i64 m1.sty.before, .int .i64 m1.sty.after, .int .i64 m1.sty.inside, .int .i64 m1.sty.clear, .int .i64 m1.line, .int .i64 m1.space, .slice A2 m1.n c2, .int .i64 m1.side, .int .i64 m1.w, .int .i64 m1.h] 36))
      have hz4 := hO4.1
      rw [flat_len encM_len] at hz4
      refine wpList_append_cells _ rfl (.tmp 24) (.tmp 26) _ rfl D 36 j0 (.agg #[.int .i64 0, .int .i64 0, .int .i64 0, .int .i64 0, .int .i64 0, .int .i64 0, .int .i64 0, .int .i64 0, .int .i64 0, .int .i64 0, .int .i64 0, .int .i64 0, .int .i64 0, .int .i64 0, .int .i64 0, .int .i64 0, .slice none 0 0, .int .i64 0, .int .i64 0, .int .i64 0]) 20 176 Tryz.underlying22 hj0 hy0 hy1 hy2 rfl (by decide) (.slice A1 k c1) k _ rfl hO4 (some ⟨V2.heap.size, 0, none⟩) 1 1 _ rfl hc4 (encM_one m2) (by unfold maxLen; omega) (by omega) (by have := hb4.size; omega) ?_
      intro A5 c5 V5 hown5 hg5
      have hblk := owns_block hO4
      have hb5 : Below D w V5 := (HO.out.mono (by omega)).trans ((hb4.mono (by omega)).grown hg5 (by have := hb4.size; omega) (fun r e => hblk r e))
      have hh5 := hh4.grown hO4 (by decide) hg5
      have hw5 := owns_grown hw4 hO4 (by decide) hg5
      have hfl : (zs ++ [m2]).flatMap encM = zs.flatMap encM ++ encM m2 := by simp
      have HO5 := Lib.hid (show V5.ownsRow D 36 20 (.slice A5 (k + 1) c5) (k + 1) ((zs ++ [m2]).flatMap encM) by rw [hfl]; exact hown5)
      have hx2 : Holds D V5 m2 x1 := ⟨S1.out.1, by
        have := owns_up hw5 (base' := D) (by omega)
        exact this⟩
      have HH5 := Lib.hid (show Holds2 D V5 (zs ++ [m2]) (l.take (k + 1)) by
        have := hh5.append (Holds2.one hx2)
        rw [List.take_add_one, E1.out]
        exact this)
      have HB5 := Lib.hid (show On w V5 by rw [On, hD]; exact hb5)
      clear hO4 hb4 hc4 hw4 hh4 hz4 hown5 hg5 hblk hb5 hh5 hw5 hfl hx2
      go_wp2_with fail
      go_roundw
      case rel => exact ⟨k + 1, c5, A5, zs ++ [m2], by omega, by go_num, rfl, HO5.out, HH5.out, HB5.out⟩
      case measure => simp [intOf]; omega
    · have hk2 : (n : Int) ≤ (k : Int) := by omega
      obtain rfl : k = n := by omega
      go_wp2_with fail
      go_returns
      exact ⟨A1, c1, rfl, ⟨zs, ownsRow_rows encM_len (by decide) HOw.out, by have := HH.out; rw [List.take_of_length_le (by omega)] at this; exact this, Far.owns HOw.out⟩, by rw [← hD]; exact HO.out⟩
end Go.Proofs.YtechccoongilcaaGreatDoor
/- Contracts by value: rows of nodes compared. -/
namespace Go.Proofs.YtechccoongilcaaGreatDoor
open Go.RowKit
set_option linter.unusedVariables false
set_option linter.unusedSimpArgs false
theorem rsame_to {a b : List Nd} {v : Bool} (hv : ndsB a b = v) {A B : Option Addr} {n m ca cb : Nat} (w : World) (ha : Sees w A n a) (hb : Sees w B m b) : Calls Tryz.prog 10 #[.slice A n ca, .slice B m cb] w fun e w' => e = .returned (.bool v) ∧ Below w.heap.size w w' := by
  subst hv; exact rsame_any a b A B n m ca cb w ha hb
theorem ndsB_self (a : List Nd) : ndsB a a = true := by unfold ndsB; simp
end Go.Proofs.YtechccoongilcaaGreatDoor
