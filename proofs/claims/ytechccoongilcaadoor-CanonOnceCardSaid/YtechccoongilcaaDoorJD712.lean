import Derived.Test.YtechccoongilcaaDoorJD708
import Derived.Test.YtechccoongilcaaDoorJD703
import Derived.Test.YtechccoongilcaaDoorJD700
import Derived.Shelf.Strconv.Itoa3
import Derived.Lib.AppendIntMem
import Derived.Test.YtechccoongilcaaDoorJD709
import Derived.Test.YtechccoongilcaaDoorJD701
import Derived.Test.YtechccoongilcaaDoorJD711
import Derived.BigQuiet
import Derived.Deep.QuietTactic
import Derived.Deep.MidRow
/- A text's bytes as a string of the machine. Nothing of the program stands here. -/
namespace Go.Proofs.YtechccoongilcaaDoor
open Go
set_option linter.unusedVariables false
set_option linter.unusedSimpArgs false
def bytesOf (L : List Int) : ByteArray := ⟨(L.map fun d => UInt8.ofNat d.toNat).toArray⟩
theorem bytesOf_append (a b : List Int) : bytesOf (a ++ b) = bytesOf a ++ bytesOf b := by
  apply ByteArray.ext
  rw [ByteArray.data_append]
  simp [bytesOf]
theorem bytesOf_nil : bytesOf [] = ⟨#[]⟩ := rfl
theorem bytesOf_size (L : List Int) : (bytesOf L).size = L.length := by
  show ((L.map fun d => UInt8.ofNat d.toNat).toArray).size = _
  simp
theorem bytesOf_at {L : List Int} (h : ∀ d ∈ L, 0 ≤ d ∧ d ≤ 255) {i : Nat} {d : Int} (hd : L[i]? = some d) : bAt (bytesOf L) i = d := by
  have hi := (List.getElem?_eq_some_iff.1 hd).1
  have hb := h d (List.mem_of_getElem? hd)
  unfold bAt
  have e : (bytesOf L).get! i = UInt8.ofNat d.toNat := by
    show ((L.map fun d => UInt8.ofNat d.toNat).toArray)[i]! = _
    rw [getElem!_pos _ i (by simpa using hi)]
    obtain ⟨_, h2⟩ := List.getElem?_eq_some_iff.1 hd
    simp [h2]
  rw [e, UInt8.toNat_ofNat']
  omega
theorem pc_bytes {p : Pc} (h : p.fine) : ∀ d ∈ p.bytes, 0 ≤ d ∧ d ≤ 255 := by
  intro d hd
  cases p with
  | s c => simp [Pc.bytes] at hd; subst hd; unfold Pc.fine at h; omega
  | b c => simp [Pc.bytes] at hd; subst hd; unfold Pc.fine at h; omega
  | n z => have := digitsL_dig z d hd; omega
theorem text_bytes {ps : List Pc} (h : fineL ps) : ∀ d ∈ textOf ps, 0 ≤ d ∧ d ≤ 255 := by
  intro d hd
  obtain ⟨p, hp, hd⟩ := List.mem_flatMap.1 hd
  exact pc_bytes (h p hp) d hd
/-- a document's canonical text, as a string. -/
def canS (x : List Nd) : ByteArray := bytesOf (canT x)
theorem can_text {x : List Nd} (hd : IsDoc x) : IsText (canS x) (canT x) := by
  refine ⟨(bytesOf_size _).symm, fun i b hb => ?_⟩
  have hi := (List.getElem?_eq_some_iff.1 hb).1
  unfold canS
  rw [bytesOf_size, Nat.zero_add]
  exact ⟨hi, bytesOf_at (text_bytes (fine_can hd.2 hd.1 [.b 10] (fine_cons (show (Pc.b 10).fine from .inr rfl) fine_nil))) hb⟩
/-- it is read as the document. -/
theorem canS_back {x : List Nd} (hd : IsDoc x) : ReadB (canS x) (some x, 0) := can_back hd (can_text hd)
/-- two documents have the same text just if they have the same nodes. -/
theorem canS_inj {x y : List Nd} (hx : IsDoc x) (hy : IsDoc y) : canS x = canS y ↔ x = y :=
  ⟨fun h => can_inj hx hy (can_text hx) (by rw [h]; exact can_text hy), fun h => by rw [h]⟩
theorem canS_clean {x : List Nd} (hd : IsDoc x) : ∀ i, 1 ≤ i → i < (canS x).size → bAt (canS x) i ≠ 9 ∧ bAt (canS x) i ≠ 35 ∧ ¬ (bAt (canS x) i = 32 ∧ bAt (canS x) (i - 1) = 32) ∧ ¬ (bAt (canS x) i = 10 ∧ bAt (canS x) (i - 1) = 10) := can_clean hd (can_text hd)
/-! ### the same, as the document writes it: string by string -/
def digS (n : Nat) : ByteArray := bytesOf (digitsL n)
theorem digS_small {n : Nat} (h : n < 10) : digS n = bytesOf [48 + (n : Int)] := by unfold digS; rw [digitsL, if_pos h]
theorem digS_big {n : Nat} (h : ¬ n < 10) : digS n = digS (n / 10) ++ bytesOf [48 + ((n % 10 : Nat) : Int)] := by unfold digS; rw [digitsL, if_neg h, bytesOf_append]
def pcS (ps : List Pc) : ByteArray := bytesOf (textOf ps)
theorem pcS_append (a b : List Pc) : pcS (a ++ b) = pcS a ++ pcS b := by unfold pcS textOf; rw [List.flatMap_append, bytesOf_append]
theorem pcS_nil : pcS [] = ⟨#[]⟩ := rfl
theorem pcS_s (c : Int) : pcS [.s c] = bytesOf [c] := rfl
theorem pcS_b (c : Int) : pcS [.b c] = bytesOf [c] := rfl
theorem pcS_n (z : Nat) : pcS [.n z] = digS z := by unfold pcS textOf digS; simp [Pc.bytes]
theorem pcS_cons (p : Pc) (ps : List Pc) : pcS (p :: ps) = pcS [p] ++ pcS ps := pcS_append [p] ps
theorem pcS_attr (c n p : Int) : pcS (attrP c n p) = if n = p then ⟨#[]⟩ else bytesOf [c] ++ digS n.toNat := by
  unfold attrP
  split
  · rfl
  · rw [pcS_cons, pcS_s, pcS_n]
/-- nodes' text; behind each that stands in none of them, so-and-so. -/
theorem canS_cons (b : List Pc) (x : Nd) (inner rest : List Nd) (hs : x.size = 1 + (inner.length : Int)) :
    pcS (canP b (x :: (inner ++ rest))) = (if x.kind = 1 then bytesOf [91] ++ pcS (styP x.sty) ++ pcS (canP [] inner) ++ bytesOf [93] else pcS (leafP x)) ++ pcS b ++ pcS (canP b rest) := by
  rw [canP_cons b x inner rest hs, pcS_append, pcS_append]
  split
  · rw [pcS_append, pcS_append, pcS_append, pcS_s, pcS_s]
  · rfl
end Go.Proofs.YtechccoongilcaaDoor
/- A canonical text's size; a row of nodes ahead of another one. Nothing of the program stands here. -/
namespace Go.Proofs.YtechccoongilcaaDoor
open Go
set_option linter.unusedVariables false
set_option linter.unusedSimpArgs false
theorem canP_append (b : List Pc) {p : List Nd} (hF : Forest p) : ∀ (q : List Nd), canP b (p ++ q) = canP b p ++ canP b q := by
  induction hF with
  | nil => intro q; rw [canP_nil]; rfl
  | @cons x inner rest hs hk h1 h2 ih1 ih2 =>
    intro q
    rw [List.cons_append, List.append_assoc, canP_cons b x inner (rest ++ q) hs, canP_cons b x inner rest hs, ih2 q]
    simp only [List.append_assoc]
theorem digitsL_le : ∀ (k n : Nat), n < 10 ^ (k + 1) → (digitsL n).length ≤ k + 1
  | 0, n, h => by rw [digitsL, if_pos (by omega)]; simp
  | k + 1, n, h => by
    rw [digitsL]
    split
    · simp
    · have := digitsL_le k (n / 10) (by rw [Nat.div_lt_iff_lt_mul (by decide), ← Nat.pow_succ]; exact h)
      rw [List.length_append, List.length_singleton]
      omega
theorem pc_len {p : Pc} (h : p.fine) : p.bytes.length ≤ 13 := by
  cases p with
  | s c => exact Nat.le_of_ble_eq_true rfl
  | b c => exact Nat.le_of_ble_eq_true rfl
  | n z => exact digitsL_le 12 z (by have : z ≤ 1099511627776 := h; omega)
theorem textOf_append (a b : List Pc) : textOf (a ++ b) = textOf a ++ textOf b := List.flatMap_append
theorem text_len : ∀ (ps : List Pc), fineL ps → (textOf ps).length ≤ 13 * ps.length
  | [], _ => Nat.zero_le _
  | p :: ps, h => by
    have h1 := pc_len (h p (by simp))
    have h2 := text_len ps (fun q hq => h q (by simp [hq]))
    have : textOf (p :: ps) = p.bytes ++ textOf ps := rfl
    rw [this, List.length_append, List.length_cons]
    omega
theorem attrP_len (c n p : Int) : (attrP c n p).length ≤ 2 := by
  unfold attrP
  split <;> simp
theorem styP_len (s : Sty) : (styP s).length ≤ 24 := by
  unfold styP
  simp only [List.length_append]
  have h1 := attrP_len 109 s.top 0
  have h2 := attrP_len 110 s.bottom 0
  have h3 := attrP_len 112 s.padTop 0
  have h4 := attrP_len 113 s.padBottom 0
  have h5 := attrP_len 105 s.inset 0
  have h6 := attrP_len 111 s.orphans 2
  have h7 := attrP_len 119 s.widows 2
  have h8 := attrP_len 104 s.head 0
  have h9 := attrP_len 66 s.before 0
  have h10 := attrP_len 65 s.after 0
  have h11 := attrP_len 73 s.inside 0
  have h12 := attrP_len 99 s.clear 0
  omega
theorem wordsP_len : ∀ (ws : List Int), (wordsP ws).length = 2 * ws.length
  | [] => rfl
  | w :: ws => by
    have := wordsP_len ws
    show (Pc.b 32 :: .n w.toNat :: wordsP ws).length = _
    simp only [List.length_cons]
    omega
theorem leafP_len (x : Nd) : (leafP x).length ≤ 6 + 2 * x.words.length := by
  unfold leafP
  split
  · simp only [List.length_append, wordsP_len, List.length_cons, List.length_nil]; omega
  split
  · simp only [List.length_cons, List.length_nil]; omega
  split
  · simp only [List.length_cons, List.length_nil]; omega
  split
  · simp only [List.length_cons, List.length_nil]; omega
  · simp
/-- at most so many pieces. -/
def wts (l : List Nd) : Nat := (l.map fun x => 27 + 2 * x.words.length).sum
theorem wts_append (a b : List Nd) : wts (a ++ b) = wts a + wts b := by unfold wts; simp
theorem wts_cons (x : Nd) (b : List Nd) : wts (x :: b) = 27 + 2 * x.words.length + wts b := by unfold wts; simp
theorem can_len {l : List Nd} (hF : Forest l) : ∀ (b : List Pc), b.length ≤ 1 → (canP b l).length ≤ wts l := by
  induction hF with
  | nil => intro b _; simp [canP_nil]
  | @cons x inner rest hs hk h1 h2 ih1 ih2 =>
    intro b hb
    rw [canP_cons b x inner rest hs, wts_cons, wts_append, List.length_append, List.length_append]
    have e1 := ih1 [] (by simp)
    have e2 := ih2 b hb
    have e3 := styP_len x.sty
    have e4 := leafP_len x
    split
    · simp only [List.length_append, List.length_cons, List.length_nil]; omega
    · omega
theorem wts_le {l : List Nd} {W : Nat} (h : ∀ x ∈ l, x.words.length ≤ W) : wts l ≤ l.length * (27 + 2 * W) := by
  induction l with
  | nil => simp [wts]
  | cons x l ih =>
    have h1 := h x (by simp)
    have h2 := ih (fun y hy => h y (by simp [hy]))
    have h3 : (l.length + 1) * (27 + 2 * W) = l.length * (27 + 2 * W) + (27 + 2 * W) := Nat.succ_mul _ _
    rw [wts_cons, List.length_cons, h3]
    omega
theorem can_size {l : List Nd} (hF : Forest l) (hf : ∀ x ∈ l, x.fits) {b : List Pc} (hb : b.length ≤ 1) (hfb : fineL b) : (textOf (canP b l)).length ≤ 13 * wts l :=
  Nat.le_trans (text_len _ (fine_can hF hf b hfb)) (Nat.mul_le_mul_left _ (can_len hF b hb))
theorem pcS_size (ps : List Pc) : (pcS ps).size = (textOf ps).length := bytesOf_size _
end Go.Proofs.YtechccoongilcaaDoor
/- strconv.Itoa, and a text's bytes. -/
namespace Go.Proofs.YtechccoongilcaaDoor
open Go.RowKit
set_option linter.unusedVariables false
set_option linter.unusedSimpArgs false
def u8L (L : List Int) : List UInt8 := L.map fun d => UInt8.ofNat d.toNat
def uL (ps : List Pc) : List UInt8 := u8L (textOf ps)
theorem u8L_append (a b : List Int) : u8L (a ++ b) = u8L a ++ u8L b := List.map_append
theorem uL_append (a b : List Pc) : uL (a ++ b) = uL a ++ uL b := by unfold uL; rw [textOf_append, u8L_append]
theorem uL_nil : uL [] = [] := rfl
theorem uL_len (ps : List Pc) : (uL ps).length = (textOf ps).length := by unfold uL u8L; simp
theorem pcS_uL (ps : List Pc) : pcS ps = ⟨(uL ps).toArray⟩ := rfl
theorem digS_u8 (n : Nat) : digS n = ⟨(u8L (digitsL n)).toArray⟩ := rfl
theorem uL_n (n : Nat) : uL [.n n] = u8L (digitsL n) := by unfold uL textOf; simp [Pc.bytes]
theorem uL_s (c : Nat) : uL [.s (c : Int)] = [UInt8.ofNat c] := by unfold uL textOf u8L; simp [Pc.bytes]
theorem uL_b (c : Nat) : uL [.b (c : Int)] = [UInt8.ofNat c] := by unfold uL textOf u8L; simp [Pc.bytes]
theorem dec_digits : ∀ (n : Nat), Lib.decDigits n = u8L (digitsL n) := by
  intro n
  induction n using Nat.strongRecOn with
  | _ n ih =>
    rw [Lib.decDigits, digitsL]
    split
    · show _ = [UInt8.ofNat (48 + (n : Int)).toNat]
      rw [show (48 + (n : Int)).toNat = 48 + n by omega]
    · rw [ih (n / 10) (by omega), u8L_append]
      show _ = _ ++ [UInt8.ofNat (48 + ((n % 10 : Nat) : Int)).toNat]
      rw [show (48 + ((n % 10 : Nat) : Int)).toNat = 48 + n % 10 by omega]
theorem itoa_digS (n : Nat) : (⟨(Lib.itoa (n : Int)).toArray⟩ : ByteArray) = digS n := by
  unfold Lib.itoa
  rw [if_neg (by omega), Int.toNat_natCast, dec_digits, digS_u8]
/-- the library's table of powers reads as it is laid, whatever is done from block B on. -/
def TabP (B : Nat) (w : World) : Prop := Lib.TabBelow Tryd.prog B w "internal/strconv.uint64pow10" .u64 Lib.pow10Tab
theorem TabP.on {B : Nat} {w w' : World} (h : TabP B w) (hb : Below B w w') : TabP B w' := Lib.TabBelow.on h hb
theorem TabP.up {B B' : Nat} {w : World} (h : TabP B w) (hB : B ≤ B') : TabP B' w := fun w' hb => h w' (hb.mono hB)
theorem itoa_at {B : Nat} {w : World} (hT : TabP B w) (n : Nat) (h : n ≤ 1099511627776) : Calls Tryd.prog 66 #[.int .i64 (n : Int)] w fun e w' => e = .returned (.string (digS n)) ∧ Below w.heap.size w w' := by
  refine (Any.strconv_Itoa itoaLays (n : Int) (by omega) (by omega) w (Lib.TabBelow.here hT)).mono ?_
  rintro e w' ⟨rfl, k, os, rfl⟩
  exact ⟨by rw [itoa_digS], Lib.below_grow _ _ (Nat.le_refl _) k os⟩
theorem itoa_on {B : Nat} {W : World} (hT : TabP B W) (hB : B ≤ W.heap.size) (p : OnW W) {z : Int} (h0 : 0 ≤ z) (h : z ≤ 1099511627776) : Calls Tryd.prog 66 #[.int .i64 z] p.w fun e w' => e = .returned (.string (digS z.toNat)) ∧ Below p.w.heap.size p.w w' := by
  have := itoa_at (hT.on (p.h.mono hB)) z.toNat (by omega)
  rw [show ((z.toNat : Nat) : Int) = z by omega] at this
  exact this
/-- a writer that is written on: its bytes; the table; where its memory begins. -/
def Pen (B b : Nat) (l : List UInt8) (w : World) : Prop := Wr B b l w ∧ TabP B w ∧ B ≤ w.heap.size
theorem Pen.kept {B b : Nat} {l l' : List UInt8} {w w' : World} (h : Pen B b l w) (hw : Wr B b l' w') (hk : Kept B b w w') : Pen B b l' w' := ⟨hw, h.2.1.on hk.1, Nat.le_trans h.2.2 hk.size⟩
theorem Pen.below {B b : Nat} {l : List UInt8} {v w : World} (h : Pen B b l v) (hb : Below v.heap.size v w) : Pen B b l w := ⟨h.1.below hb, h.2.1.on (hb.mono h.2.2), Nat.le_trans h.2.2 hb.size⟩
/-- what a method that writes the pieces ps leaves. -/
def Wrote (B b : Nat) (l : List UInt8) (ps : List Pc) (w w' : World) : Prop := Pen B b (l ++ uL ps) w' ∧ Kept B b w w'
theorem Wrote.trans {B b : Nat} {l : List UInt8} {ps qs : List Pc} {u v w : World} (h : Wrote B b l ps u v) (k : Wrote B b (l ++ uL ps) qs v w) : Wrote B b l (ps ++ qs) u w :=
  ⟨by rw [uL_append, ← List.append_assoc]; exact k.1, h.2.trans k.2⟩
theorem Wrote.nil {B b : Nat} {l : List UInt8} {w : World} (h : Pen B b l w) : Wrote B b l [] w w := ⟨by rw [uL_nil, List.append_nil]; exact h, Kept.refl _ _ _⟩
/-- .. of a world that is behind another one by new memory alone. -/
theorem Wrote.ahead {B b : Nat} {l : List UInt8} {ps : List Pc} {u v w : World} (hB : B ≤ u.heap.size) (hb : Below u.heap.size u v) (h : Wrote B b l ps v w) : Wrote B b l ps u w := ⟨h.1, ((Kept.refl B b u).below hB hb).trans h.2⟩
theorem Wrote.behind {B b : Nat} {l : List UInt8} {ps : List Pc} {u v w : World} (h : Wrote B b l ps u v) (hb : Below v.heap.size v w) : Wrote B b l ps u w := ⟨h.1.below hb, h.2.below h.1.2.2 hb⟩
/-- room for so many more bytes. -/
def Room (l : List UInt8) (k : Nat) : Prop := l.length + k ≤ 140737488355328
theorem Room.less {l : List UInt8} {j k : Nat} (h : Room l k) (hj : j ≤ k) : Room l j := by unfold Room at *; omega
theorem Room.on {l : List UInt8} {ps : List Pc} {k : Nat} (h : Room l ((textOf ps).length + k)) : Room (l ++ uL ps) k := by unfold Room at *; rw [List.length_append, uL_len]; omega
theorem pen_byte (c : Nat) (p : Pc) (hp : p.bytes = [(c : Int)]) (hc : c < 256) {B b : Nat} {l : List UInt8} {w : World} (h : Pen B b l w) (hr : Room l 1) :
    Calls Tryd.prog 23 #[.pointer (some ⟨b, 0, none⟩), .int .u8 (c : Int)] w fun e w' => e = .returned .nilIface ∧ Wrote B b l [p] w w' := by
  refine (wr_byte B b l c w h.1 hc hr h.2.2).mono ?_
  rintro e w' ⟨he, hw, hk⟩
  have hu : uL [p] = [UInt8.ofNat c] := by unfold uL textOf u8L; simp [hp]
  exact ⟨he, by rw [hu]; exact h.kept hw hk, hk⟩
end Go.Proofs.YtechccoongilcaaDoor
/- The program's package lex: Of and Text, each by its contract (lexof_any, lextext_any). -/
namespace Go.Proofs.YtechccoongilcaaDoor
end Go.Proofs.YtechccoongilcaaDoor
/- Rows of nodes compared. (Of no function.) -/
namespace Go.Proofs.YtechccoongilcaaDoor
open Go.RowKit
set_option linter.unusedVariables false
set_option linter.unusedSimpArgs false
def cellsM (w : World) (D : Nat) (m : NdM) : Prop := Box w D (encM m)
theorem ndB_M {w : World} {m1 m2 : NdM} {x1 x2 : Nd} (h1 : Shows w m1 x1) (h2 : Shows w m2 x2) : ndB x1 x2 = (m1.kind == m2.kind && m1.size == m2.size && styB m1.sty m2.sty && m1.line == m2.line && m1.space == m2.space && m1.side == m2.side && m1.w == m2.w && m1.h == m2.h && x1.words == x2.words) := by
  obtain ⟨⟨a1, a2, a3, a4, a5, a6, a7, a8⟩, _⟩ := h1
  obtain ⟨⟨b1, b2, b3, b4, b5, b6, b7, b8⟩, _⟩ := h2
  unfold ndB
  rw [a1, a2, a3, a4, a5, a6, a7, a8, b1, b2, b3, b4, b5, b6, b7, b8]
theorem words_ne {a b : List Int} {k : Nat} {x y : Int} (h1 : a[k]? = some x) (h2 : b[k]? = some y) (h : x ≠ y) : (a == b) = false := by
  rw [beq_eq_false_iff_ne]
  rintro rfl
  rw [h1] at h2
  injection h2 with h2
  exact h h2
theorem words_eq {a b : List Int} (hl : a.length = b.length) (h : ∀ k, k < a.length → a[k]? = b[k]?) : (a == b) = true := by
  rw [beq_iff_eq]
  refine List.ext_getElem? fun k => ?_
  rcases Nat.lt_or_ge k a.length with hk | hk
  · exact h k hk
  · rw [List.getElem?_eq_none hk, List.getElem?_eq_none (by omega)]
def ndsB (a b : List Nd) : Bool := decide (a = b)
theorem ndsB_all {a b : List Nd} (hl : a.length = b.length) (h : ∀ j, j < a.length → a[j]? = b[j]?) : ndsB a b = true := by
  unfold ndsB
  rw [decide_eq_true_eq]
  refine List.ext_getElem? fun k => ?_
  rcases Nat.lt_or_ge k a.length with hk | hk
  · exact h k hk
  · rw [List.getElem?_eq_none hk, List.getElem?_eq_none (by omega)]
theorem ndsB_ne {a b : List Nd} {k : Nat} {x y : Nd} (h1 : a[k]? = some x) (h2 : b[k]? = some y) (h : x ≠ y) : ndsB a b = false := by
  unfold ndsB
  rw [decide_eq_false_iff_not]
  rintro rfl
  rw [h1] at h2
  injection h2 with h2
  exact h h2
theorem ndsB_len {a b : List Nd} (h : a.length ≠ b.length) : ndsB a b = false := by
  unfold ndsB
  rw [decide_eq_false_iff_not]
  rintro rfl
  exact h rfl
end Go.Proofs.YtechccoongilcaaDoor
/- The program's package read: a new reader. -/
namespace Go.Proofs.YtechccoongilcaaDoor
open Go.RowKit Go.ChangeMaps
set_option linter.unusedVariables false
set_option linter.unusedSimpArgs false
theorem Box.ne_slice {w : World} {n g : Nat} {v : Value} {A : Option Addr} {m c : Nat} (h : Box w n [v]) (hg : w.cell? ⟨g, 0, none⟩ = some (.slice A m c)) (hv : ∀ A m c, v ≠ .slice A m c) : n ≠ g := by
  rintro rfl
  have q := h.2.2 0 _ rfl
  rw [hg] at q
  injection q with q
  exact hv _ _ _ q.symm
theorem Tells.bar {w w' : World} {rb g : Nat} {part : Addr} {lo hi : Int} {v : Value} {A : Option Addr} {m c : Nat} (h : Tells w rb part lo hi v) (hg : w.cell? ⟨g, 0, none⟩ = some (.slice A m c)) (hb : Bar g w w') : Tells w' rb part lo hi v := by
  obtain ⟨D, h1, h2, h3, h4⟩ := h
  exact ⟨D, h1, h2.bar hb (h2.ne_slice hg (by intros; simp)), h3.bar hb (h3.ne_slice hg (by intros; simp)), h4.bar hb (h4.ne_slice hg (by intros; simp))⟩
theorem Lets.bar' {w w' : World} {rb g M : Nat} {A : Option Addr} {m c : Nat} (h : Lets w rb g M) (hg : w.cell? ⟨g, 0, none⟩ = some (.slice A m c)) (hb : Bar g w w') : Lets w' rb g M := by
  obtain ⟨l, h1, h2, h3⟩ := h.ex
  exact ⟨h.box.bar hb h.ne.1, h.ne, l, h1.bar hb h.ne.2, fun p hp => ⟨(h2 p hp).1, (h2 p hp).2.bar hg hb⟩, h3⟩
theorem Lets.bar {toks : List Tok} {size : Int} {i : Nat} {wr : Bool} {row opn : Value} {s : Sty} {mp : Value} {w w' : World} {rb g M : Nat} (h : Lets w rb g M) (hr : Rd toks size g w i wr row opn s mp) (hb : Bar g w w') : Lets w' rb g M := by
  obtain ⟨A, m, c, h1, h2, h3, h4, h5⟩ := hr
  exact h.bar' (h5.box.2.2 0 _ rfl) hb
set_option maxRecDepth 100000 in
theorem newreader_any (toks : List Tok) (A : Option Addr) (m c : Nat) (size : Int) (w : World) (h : Rows 4 encT w A m toks) (hc : m ≤ c) (hA : Apart w.heap.size A) :
    Calls Tryd.prog 15 #[.slice A m c, .int .i64 size] w fun e w' => ∃ rb M, e = .returned (.pointer (some ⟨w.heap.size, 0, none⟩)) ∧
      Rd toks size w.heap.size w' 0 false (.slice none 0 0) (.slice none 0 0) .none (.map (some M)) ∧ Lets w' rb w.heap.size M ∧ Below w.heap.size w w' := by
  have HR := Lib.hid h
  clear h
  go_enter Tryd.func15, Tryd.ntmps15
  go_wp2_with fail
  refine (letters_any w.heap.size _ (by simp)).mono ?_
  rintro e w1 ⟨M, rb, rfl, hl, hb⟩
  have hB : Blk (w.alloc (.cells (rcells (.slice A m c) size false (.slice none 0 0) (.slice none 0 0) .none (.map none)).toArray 47)) w.heap.size 47 (rcells (.slice A m c) size false (.slice none 0 0) (.slice none 0 0) .none (.map none)) := Blk.new w _ _ _ rfl _ rfl
  have hB1 : Blk w1 w.heap.size 47 (rcells (.slice A m c) size false (.slice none 0 0) (.slice none 0 0) .none (.map none)) := hB.on hb
  have hw1 : Below w.heap.size w w1 := Below.trans ((Below.refl w.heap.size w).alloc (Nat.le_refl _) _) (hb.mono (by simp))
  have hr : Rd toks size w.heap.size w1 0 false (.slice none 0 0) (.slice none 0 0) .none (.map none) := ⟨A, m, c, by simpa using HR.out.below hw1, hA, hc, Nat.zero_le _, hB1⟩
  have g0 := hr.lt
  have f17 := hr.frozen 17
  obtain ⟨v17, c17⟩ := hr.cell 17 (by omega)
  have HRd := Lib.hid hr
  have HL := Lib.hid hl
  have HW := Lib.hid hw1
  clear hr hl hw1 hB hB1 hb
  go_wp2_with fail
  go_ret
  exact ⟨rb, M, rfl, HRd.out.set 17 _ (fun _ => rfl), HL.out.bar HRd.out ((Bar.refl _ _).set _ _), ((Bar.refl w.heap.size w1).set 17 (.map (some M))).below (Nat.le_refl _) HW.out.size |> HW.out.trans⟩
end Go.Proofs.YtechccoongilcaaDoor
/- The program's package read: a side; a box, a float, or nothing that begins. -/
namespace Go.Proofs.YtechccoongilcaaDoor
open Go.RowKit
set_option linter.unusedVariables false
set_option linter.unusedSimpArgs false
def sideS (toks : List Tok) (i : Nat) (wr : Bool) : Int × Nat × Bool := if !wr && sgB toks i 76 then (1, i + 1, false) else (2, mustS toks i wr 82)
theorem pside_to {toks : List Tok} {size : Int} {g : Nat} {w : World} {i j : Nat} {wr b : Bool} {row opn : Value} {s : Sty} {mp : Value} {n : Int} (hv : sideS toks i wr = (n, j, b)) (h : Rd toks size g w i wr row opn s mp) :
    Calls Tryd.prog 61 #[.pointer (some ⟨g, 0, none⟩)] w fun e w' => e = .returned (.int .i64 n) ∧ Bar g w w' ∧ w'.heap.size = w.heap.size ∧ Rd toks size g w' j b row opn s mp := by
  unfold sideS at hv
  rcases hq : (!wr && sgB toks i 76) with _ | _
  · rw [hq] at hv
    injection hv with e1 hm
    subst e1
    have HM := Lib.hid (psign_to hq h)
    have HN := Lib.hid hm
    clear hq h hm
    go_enter Tryd.func61, Tryd.ntmps61
    go_wp2_with fail
    refine HM.out.mono ?_
    rintro e w' ⟨rfl, hb, hs, hr⟩
    have HB := Lib.hid hb
    have HR := Lib.hid hr
    clear hb hr
    go_wp2_with fail
    refine (must_to HN.out HR.out).mono ?_
    rintro e w2 ⟨⟨v, rfl⟩, hb2, hs2, hr2⟩
    have HB2 := Lib.hid hb2
    have HR2 := Lib.hid hr2
    clear hb2 hr2
    go_wp2_with fail
    go_ret
    exact ⟨rfl, HB.out.trans HB2.out, by omega, HR2.out⟩
  · rw [hq] at hv
    injection hv with e1 e2
    injection e2 with e2 e3
    subst e1 e2 e3
    have hwr : wr = false := by cases wr with | false => rfl | true => simp at hq
    subst hwr
    have HM := Lib.hid (psign_to hq h)
    clear hq h
    go_enter Tryd.func61, Tryd.ntmps61
    go_wp2_with fail
    refine HM.out.mono ?_
    rintro e w' ⟨rfl, hb, hs, hr⟩
    have HB := Lib.hid hb
    have HR := Lib.hid hr
    clear hb hr
    go_wp2_with fail
    go_ret
    exact ⟨rfl, HB.out, hs, HR.out⟩
theorem psign_no {toks : List Tok} {size : Int} {g : Nat} {w : World} {i : Nat} {wr : Bool} {row opn : Value} {s : Sty} {mp : Value} {c : Int} (hv : (!wr && sgB toks i c) = false) (h : Rd toks size g w i wr row opn s mp) :
    Calls Tryd.prog 33 #[.pointer (some ⟨g, 0, none⟩), .int .i32 c] w fun e w' => e = .returned (.bool false) ∧ Bar g w w' ∧ w'.heap.size = w.heap.size ∧ Rd toks size g w' i wr row opn s mp := psign_to hv h
theorem psign_yes {toks : List Tok} {size : Int} {g : Nat} {w : World} {i : Nat} {row opn : Value} {s : Sty} {mp : Value} {c : Int} (hv : sgB toks i c = true) (h : Rd toks size g w i false row opn s mp) :
    Calls Tryd.prog 33 #[.pointer (some ⟨g, 0, none⟩), .int .i32 c] w fun e w' => e = .returned (.bool true) ∧ Bar g w w' ∧ w'.heap.size = w.heap.size ∧ Rd toks size g w' (i + 1) false row opn s mp := psign_to (v := true) (by simpa using hv) h
/-- what a thing is asked by: one of four signs, or none. -/
theorem thing_none {toks : List Tok} {size : Int} {g : Nat} {w : World} {i : Nat} {row opn : Value} {s : Sty} {mp : Value} (ho : opens toks i = false) (h : Rd toks size g w i false row opn s mp) :
    Calls Tryd.prog 36 #[.pointer (some ⟨g, 0, none⟩)] w fun e w' => e = .returned .nilIface ∧ Bar g w w' ∧ Rd toks size g w' i true row opn s mp := by
  unfold opens at ho
  simp only [Bool.or_eq_false_iff] at ho
  obtain ⟨⟨⟨h1, h2⟩, h3⟩, h4⟩ := ho
  have H1 := Lib.hid h1
  have H2 := Lib.hid h2
  have H3 := Lib.hid h3
  have H4 := Lib.hid h4
  have HR := Lib.hid h
  have HB := Lib.hid (Bar.refl g w)
  clear h1 h2 h3 h4 h
  go_enter Tryd.func36, Tryd.ntmps36
  go_wp2_with fail
  refine (psign_no (by rw [H1.out]; rfl) HR.out).mono ?_
  rintro e w1 ⟨rfl, hb, hs1, hr⟩
  have HR := Lib.hid hr
  have HB := Lib.hid (HB.out.trans hb)
  clear hb hr
  go_wp2_with fail
  refine (psign_no (by rw [H2.out]; rfl) HR.out).mono ?_
  rintro e w2 ⟨rfl, hb, hs2, hr⟩
  have HR := Lib.hid hr
  have HB := Lib.hid (HB.out.trans hb)
  clear hb hr
  go_wp2_with fail
  refine (psign_no (by rw [H3.out]; rfl) HR.out).mono ?_
  rintro e w3 ⟨rfl, hb, hs3, hr⟩
  have HR := Lib.hid hr
  have HB := Lib.hid (HB.out.trans hb)
  clear hb hr
  go_wp2_with fail
  refine (psign_no (by rw [H4.out]; rfl) HR.out).mono ?_
  rintro e w4 ⟨rfl, hb, hs4, hr⟩
  have HR := Lib.hid hr
  have HB := Lib.hid (HB.out.trans hb)
  have g0 := hr.lt
  have f2 := hr.frozen 2
  obtain ⟨v2, c2⟩ := hr.cell 2 (by omega)
  clear hb hr
  go_wp2_with fail
  go_ret
  exact ⟨rfl, HB.out.set _ _, HR.out.set 2 _ (fun _ => rfl)⟩
theorem thing_box {toks : List Tok} {size : Int} {g : Nat} {w : World} {i j1 j2 : Nat} {b1 b2 : Bool} {n1 n2 : Int} {row opn : Value} {s : Sty} {mp : Value} (ho : sgB toks i 123 = true)
    (hv1 : numS toks (i + 1) false 1 maxN = (n1, j1, b1)) (hv2 : numS toks j1 b1 1 maxN = (n2, j2, b2)) (h : Rd toks size g w i false row opn s mp) :
    Calls Tryd.prog 36 #[.pointer (some ⟨g, 0, none⟩)] w fun e w' => e = .returned (.iface 114 (.agg #[.int .i64 n1, .int .i64 n2])) ∧ Bar g w w' ∧ Rd toks size g w' j2 b2 row opn s mp := by
  have H1 := Lib.hid (sgB_one ho (show (123 : Int) ≠ 91 by decide))
  have H2 := Lib.hid (sgB_one ho (show (123 : Int) ≠ 40 by decide))
  have H3 := Lib.hid ho
  have HV1 := Lib.hid hv1
  have HV2 := Lib.hid hv2
  have HR := Lib.hid h
  have HB := Lib.hid (Bar.refl g w)
  clear ho hv1 hv2 h
  go_enter Tryd.func36, Tryd.ntmps36
  go_wp2_with fail
  refine (psign_no (by rw [H1.out]; rfl) HR.out).mono ?_
  rintro e w1 ⟨rfl, hb, hs1, hr⟩
  have HR := Lib.hid hr
  have HB := Lib.hid (HB.out.trans hb)
  clear hb hr
  go_wp2_with fail
  refine (psign_no (by rw [H2.out]; rfl) HR.out).mono ?_
  rintro e w2 ⟨rfl, hb, hs2, hr⟩
  have HR := Lib.hid hr
  have HB := Lib.hid (HB.out.trans hb)
  clear hb hr
  go_wp2_with fail
  refine (psign_yes H3.out HR.out).mono ?_
  rintro e w3 ⟨rfl, hb, hs3, hr⟩
  have HR := Lib.hid (hr.bar (Bar.refl g _).drew rfl)
  have HB := Lib.hid (HB.out.trans hb).drew
  clear hb hr
  go_wp2_with fail
  go_region_held3 (fun _ => True) (trivial) (first
    | (go_at_call 60; ((with_reducible refine (plen_to HV1.out HR.out).mono ?_); rintro e w4 ⟨rfl, hb, hs4, hr⟩; have HR1 := Lib.hid hr; have HB1 := Lib.hid (HB.out.trans hb); clear hb hr))
    | (go_at_call 60; ((with_reducible refine (plen_to HV2.out HR1.out).mono ?_); rintro e w5 ⟨rfl, hb, hs5, hr⟩; have HR2 := Lib.hid hr; have HB2 := Lib.hid (HB1.out.trans hb); clear hb hr)))
  go_wp2_with fail
  go_ret
  exact ⟨rfl, HB2.out, HR2.out⟩
end Go.Proofs.YtechccoongilcaaDoor
/- The document's answers for package canon: digits, attributes. -/
namespace Go.Proofs.YtechccoongilcaaDoor
open Go.RowKit
set_option linter.unusedVariables false
set_option linter.unusedSimpArgs false
theorem digS_size {n : Nat} (h : n ≤ 1099511627776) : ((digS n).size : Int) ≤ 13 := by
  have := pc_len (p := .n n) h
  have e : (digS n).size = (digitsL n).length := bytesOf_size _
  rw [e]
  have : (digitsL n).length ≤ 13 := this
  omega
theorem conv_digit (w : World) (n : Nat) : (convert 53 9 (.slice (some ⟨w.heap.size, 0, none⟩) 1 1)).run Tryd.prog (w.alloc (.cells #[.int .u8 (48 + (n : Int) % 10)] 5)) = .ok (.string (bytesOf [48 + ((n % 10 : Nat) : Int)])) (w.alloc (.cells #[.int .u8 (48 + (n : Int) % 10)] 5)) := by
  refine run_convert_bytes_back _ 53 9 5 ⟨w.heap.size, 0, none⟩ 1 [UInt8.ofNat (48 + ((n % 10 : Nat) : Int)).toNat] Tryd.underlying53 Tryd.underlying5 Tryd.underlying9 ?_
  intro j hj
  simp only [List.length_singleton] at hj
  obtain rfl : j = 0 := by omega
  rw [Addr.add_lit, World.cell?_alloc_new]
  simp only [List.getElem_cons_zero, UInt8.toNat_ofNat']
  show some (Value.int IntKind.u8 _) = _
  congr 2
  omega
set_option maxHeartbeats 1000000 in
set_option maxRecDepth 100000 in
theorem vdig_all : ∀ (n : Nat), n ≤ 1099511627776 → ∀ (w : World), Calls Tryd.prog 28 #[.int .i64 (n : Int)] w fun e w' => e = .returned (.string (digS n)) ∧ Below w.heap.size w w' := by
  intro n
  induction n using Nat.strongRecOn with
  | _ n ih =>
  intro hn w
  by_cases h9 : n < 10
  · have HD := Lib.hid (digS_small h9)
    have hm : n % 10 = n := by omega
    have hc := conv_digit w n
    rw [hm, ← HD.out] at hc
    have h1 : (n : Int) ≤ 9 := by omega
    clear hm ih hn HD
    go_enter Tryd.func28, Tryd.ntmps28
    go_wp2_with fail
    go_ret
    exact ⟨rfl, by go_grown⟩
  · have hD := digS_big h9
    have hd1 := digS_size (n := n / 10) (by omega)
    have hd2 : ((bytesOf [48 + ((n % 10 : Nat) : Int)]).size : Int) ≤ 1 := by rw [bytesOf_size]; simp
    have hI := ih (n / 10) (by omega) (by omega)
    have hc := conv_digit w n
    have e : ((n / 10 : Nat) : Int) = (n : Int) / 10 := by omega
    rw [e] at hI
    generalize digS (n / 10) = u at hD hd1 hI
    generalize bytesOf [48 + ((n % 10 : Nat) : Int)] = v at hD hd2 hc
    have IH := Lib.hid hI
    have HD := Lib.hid hD
    have hd3 : (u.size : Int) ≤ 8388608 := by omega
    have hd4 : (v.size : Int) ≤ 8388608 := by omega
    have h1 : (9 : Int) < (n : Int) := by omega
    have h2 : (n : Int) ≤ 1099511627776 := by omega
    clear ih hn hI hD hd1 hd2 e
    go_enter Tryd.func28, Tryd.ntmps28
    go_wp2_with fail
    refine (IH.out _).mono ?_
    rintro e w1 ⟨rfl, hb⟩
    have HB := Lib.hid (below_then (show Below w.heap.size w _ by go_grown) hb)
    clear hb hc
    go_wp2_with fail
    go_ret
    exact ⟨by rw [HD.out]; rfl, HB.out⟩
/-- a number from 0 on. -/
theorem vdig_to {z : Int} (h0 : 0 ≤ z) (h : z ≤ 1099511627776) {v : ByteArray} (hv : digS z.toNat = v) (w : World) : Calls Tryd.prog 28 #[.int .i64 z] w fun e w' => e = .returned (.string v) ∧ Below w.heap.size w w' := by
  have := vdig_all z.toNat (by omega) w
  rw [show ((z.toNat : Nat) : Int) = z by omega, hv] at this
  exact this
end Go.Proofs.YtechccoongilcaaDoor
/- The program's writer: numbers, and rows of them. -/
namespace Go.Proofs.YtechccoongilcaaDoor
open Go.RowKit
set_option linter.unusedVariables false
set_option linter.unusedSimpArgs false
set_option maxHeartbeats 1000000 in
set_option maxRecDepth 100000 in
theorem pen_number {B b : Nat} {l : List UInt8} {w : World} (z : Int) (h : Pen B b l w) (h0 : 0 ≤ z) (h1 : z ≤ 1099511627776) (hr : Room l 13) :
    Calls Tryd.prog 40 #[.pointer (some ⟨b, 0, none⟩), .int .i64 z] w fun e w' => e = .returned (.tuple #[]) ∧ Wrote B b l [.n z.toNat] w w' := by
  have H := Lib.hid h
  have HR := Lib.hid hr
  have HI := Lib.hid (show ∀ p : OnW w, Calls Tryd.prog 66 #[.int .i64 z] p.w fun e w' => e = .returned (.string (digS z.toNat)) ∧ Below p.w.heap.size p.w w' from fun p => itoa_on h.2.1 h.2.2 p h0 h1)
  have hf : (Pc.n z.toNat).fine := by show z.toNat ≤ 1099511627776; omega
  have HL := Lib.hid (show (digS z.toNat).size ≤ 13 from Nat.le_trans (Nat.le_of_eq (bytesOf_size _)) (pc_len hf))
  clear h hr hf
  go_enter Tryd.func40, Tryd.ntmps40
  go_wp2_with fail
  refine wp_region_on_tail 5 (by kernel_rfl) (by kernel_rfl) rfl (by kernel_rfl) ?_
  simp only [headOf, List.take_succ_cons, List.take_zero, List.getElem_toArray, List.getElem_cons_succ, List.getElem_cons_zero]
  repeat (go_big_quiet_step ((go_at_call 66; with_reducible exact Calls.on_of (HI.out _))))
  refine wpQuiet_nil ?_
  intro w3 hw'
  obtain ⟨⟨w', hOn⟩, hw''⟩ := hw'
  obtain rfl : w3 = w' := hw''
  have HP := Lib.hid (H.out.below hOn)
  have HO := Lib.hid hOn
  clear hOn
  go_wp2_with fail
  refine (wr_string B b l _ _ HP.out.1 (by have := HR.out; have := HL.out; unfold Room at *; omega) HP.out.2.2).mono ?_
  rintro e w4 ⟨rfl, hw, hk⟩
  have HQ := Lib.hid (show Wrote B b l [.n z.toNat] w w4 from Wrote.ahead H.out.2.2 HO.out ⟨by rw [uL_n]; exact HP.out.kept hw hk, hk⟩)
  clear hw hk
  go_wp2_with fail
  go_end0
  exact ⟨rfl, HQ.out⟩
/-- whole numbers that stay, whatever is written. -/
def IntsK (B b : Nat) (w : World) (A : Option Addr) (n : Nat) (zs : List Int) : Prop := ∀ w', Kept B b w w' → Ints w' A n zs
theorem IntsK.on {B b : Nat} {w w' : World} {A : Option Addr} {n : Nat} {zs : List Int} (h : IntsK B b w A n zs) (hk : Kept B b w w') : IntsK B b w' A n zs := fun v hv => h v (hk.trans hv)
theorem wordsP_snoc {zs : List Int} {k : Nat} (hk : k < zs.length) : wordsP (zs.take (k + 1)) = wordsP (zs.take k) ++ [.b 32, .n (zs[k]?.getD 0).toNat] := by
  rw [List.take_succ_eq_append_getElem hk]
  unfold wordsP
  rw [List.flatMap_append, List.getElem?_eq_getElem hk]
  simp
theorem words_text (zs : List Int) (hz : ∀ z ∈ zs, 0 ≤ z ∧ z ≤ 1099511627776) : (textOf (wordsP zs)).length ≤ 14 * zs.length := by
  induction zs with
  | nil => simp [wordsP, textOf]
  | cons z zs ih =>
    have h1 := ih (fun y hy => hz y (by simp [hy]))
    have h2 := hz z (by simp)
    have h3 := pc_len (p := .n z.toNat) (by show z.toNat ≤ 1099511627776; omega)
    have e : textOf (wordsP (z :: zs)) = [32] ++ (Pc.n z.toNat).bytes ++ textOf (wordsP zs) := by simp [wordsP, textOf, Pc.bytes]
    rw [e]
    simp only [List.length_append, List.length_cons, List.length_nil]
    omega
set_option maxHeartbeats 1000000 in
set_option maxRecDepth 100000 in
theorem pen_numbers {B b : Nat} {l : List UInt8} {w : World} (A : Option Addr) (n c : Nat) (zs : List Int) (h : Pen B b l w) (hI : IntsK B b w A n zs) (hz : ∀ z ∈ zs, 0 ≤ z ∧ z ≤ 1099511627776) (hr : Room l (14 * n)) :
    Calls Tryd.prog 41 #[.pointer (some ⟨b, 0, none⟩), .slice A n c] w fun e w' => e = .returned (.tuple #[]) ∧ Wrote B b l (wordsP zs) w w' := by
  have hla := (hI w (Kept.refl _ _ _)).1
  have hn63 := (hI w (Kept.refl _ _ _)).2.1
  have H := Lib.hid h
  have HI := Lib.hid hI
  have HZ := Lib.hid hz
  have HR := Lib.hid hr
  clear h hI hz hr
  go_enter Tryd.func41, Tryd.ntmps41
  go_wp2_with fail
  go_loopw [5, 8] (fun _ i wr => ∃ k : Nat, k ≤ n ∧ i = .int .i64 k ∧ Wrote B b l (wordsP (zs.take k)) w wr) (fun _ i _ => n - (intOf i).toNat)
  case atStart => exact ⟨0, by omega, rfl, by rw [List.take_zero]; exact Wrote.nil H.out⟩
  case round =>
    obtain ⟨k, hk, rfl, hw⟩ := hrel
    have HW := Lib.hid hw
    clear hw
    by_cases hlt : k < n
    · obtain ⟨z, hzk⟩ : ∃ z, zs[k]?.getD 0 = z := ⟨_, rfl⟩
      have hI1 := HI.out _ HW.out.2
      obtain ⟨b1, o1, rfl, hc⟩ := hI1.at_ hlt
      rw [hzk] at hc
      have hk2 : (k : Int) < (n : Int) := by omega
      have hbd : 0 ≤ z ∧ z ≤ 1099511627776 := by
        rw [← hzk, List.getElem?_eq_getElem (by omega : k < zs.length)]
        exact HZ.out _ (List.getElem_mem _)
      obtain ⟨z0, z1⟩ := hbd
      have hlen : (textOf (wordsP (zs.take k))).length ≤ 14 * k := by
        have := words_text (zs.take k) (fun y hy => HZ.out y (List.mem_of_mem_take hy))
        rw [List.length_take] at this
        omega
      have HR2 := Lib.hid (show Room (l ++ uL (wordsP (zs.take k))) 14 from (HR.out.less (j := (textOf (wordsP (zs.take k))).length + 14) (by omega)).on)
      have HS := Lib.hid (show wordsP (zs.take (k + 1)) = wordsP (zs.take k) ++ [.b 32] ++ [.n z.toNat] by rw [wordsP_snoc (by omega), hzk]; simp)
      clear hI1 hzk hlen
      go_wp2_with fail
      refine (pen_byte 32 (.b 32) rfl (by decide) HW.out.1 (HR2.out.less (by decide))).mono ?_
      rintro e w2 ⟨rfl, hw2⟩
      have HW2 := Lib.hid (HW.out.trans hw2)
      clear hw2
      go_wp2_with fail
      refine (pen_number z HW2.out.1 z0 z1 (by have := HR2.out; unfold Room at *; rw [uL_append, ← List.append_assoc, List.length_append, uL_len]; show _ + 1 + 13 ≤ _; omega)).mono ?_
      rintro e w3 ⟨rfl, hw3⟩
      have HW3 := Lib.hid (HW2.out.trans hw3)
      clear hw3
      go_wp2_with fail
      go_roundw
      case rel => exact ⟨k + 1, by omega, by go_num, by rw [HS.out]; exact HW3.out⟩
      case measure => simp [intOf]; omega
    · have hk2 : (n : Int) ≤ (k : Int) := by omega
      have HQ := Lib.hid (show Wrote B b l (wordsP zs) w wr by have := HW.out; rwa [List.take_of_length_le (by omega)] at this)
      go_wp2_with fail
      go_end0
      exact ⟨rfl, HQ.out⟩
end Go.Proofs.YtechccoongilcaaDoor
/- The program's package read: a block's attributes. -/
namespace Go.Proofs.YtechccoongilcaaDoor
open Go.RowKit Go.ChangeMaps
set_option linter.unusedVariables false
set_option linter.unusedSimpArgs false
theorem Bar.then {g B : Nat} {w w' w'' : World} (h : Bar g w w') (hb : Below B w' w'') (hB : w.heap.size ≤ B) : Bar g w w'' :=
  ⟨hb.os.trans h.os, hb.tape.trans h.tape, hb.output.trans h.output, Nat.le_trans h.size hb.size, fun k hk hg => (hb.block k (by omega)).trans (h.block k hk hg)⟩
theorem rcells_with {s : Sty} {c : Int} (hc : c ∈ lettersB) (n : Int) (left row opn mp : Value) (size : Int) (wr : Bool) : (rcells left size wr row opn s mp).set (5 + posB c) (.int .i64 n) = rcells left size wr row opn (withB s c n) mp := by
  simp only [lettersB, List.mem_cons, List.not_mem_nil, or_false] at hc
  rcases hc with rfl | rfl | rfl | rfl | rfl | rfl | rfl | rfl | rfl | rfl | rfl | rfl <;> rfl
theorem find_sg {l : List Tok} {i : Nat} {x y u z : Int} (hx : l[i]? = some ⟨x, y, u, z⟩) (cs : List Int) : cs.find? (sgB l i) = if x = 1 ∧ y ∈ cs then some y else none := by
  have hs : ∀ c, sgB l i c = (x == 1 && y == c) := fun c => by unfold sgB; rw [hx]
  induction cs with
  | nil => simp
  | cons c cs ih =>
    rw [List.find?_cons, hs, ih]
    by_cases h1 : x = 1
    · by_cases h2 : y = c
      · subst h2; simp [h1]
      · have : (y == c) = false := by simpa using h2
        simp [h1, this, h2]
    · have : (x == 1) = false := by simpa using h1
      simp [this, h1]
theorem letterB_at {l : List Tok} {i : Nat} {x y u z : Int} (hx : l[i]? = some ⟨x, y, u, z⟩) (told : List Int) : letterB l i told = if x = 1 ∧ y ∈ lettersB then (if y ∈ told then 0 else y) else 0 := by
  unfold letterB
  rw [find_sg hx]
  by_cases h : x = 1 ∧ y ∈ lettersB
  · rw [if_pos h, if_pos h]
  · rw [if_neg h, if_neg h]
/-- what is told wrong there. -/
def AttrsBad (toks : List Tok) (i a : Nat) : Prop := Attrs toks i .plain [] (.bad a) ∨ ∃ s, Attrs toks i .plain [] (.ok s a) ∧ ∀ c, sgB toks a c = false
/-- attributes are read up to j: what holds there. -/
def AtJ (toks : List Tok) (i j : Nat) (b : Bool) (s : Sty) (zs : List Int) : Prop := (b = false → ∀ r, Attrs toks j s zs r → Attrs toks i .plain [] r) ∧ (b = true → AttrsBad toks i j)
theorem AtJ.stop {toks : List Tok} {i j : Nat} {b : Bool} {s : Sty} {zs : List Int} (h : AtJ toks i j b s zs) (h0 : b = false → letterB toks j zs = 0) : (b = false → Attrs toks i .plain [] (.ok s j)) ∧ (b = true → AttrsBad toks i j) :=
  ⟨fun e => h.1 e _ (.stop (h0 e)), h.2⟩
theorem AtJ.step {toks : List Tok} {i j : Nat} {s : Sty} {zs : List Int} (h : AtJ toks i j false s zs) {x y u z : Int} (hx : toks[j]? = some ⟨x, y, u, z⟩) (hy : y ∈ lettersB) (hn : y ∉ zs) {j1 j2 : Nat} {b1 b2 : Bool} {n : Int}
    (h1 : mustS toks j false y = (j1, b1)) (h2 : numS toks j1 b1 (limitB y).1 (limitB y).2 = (n, j2, b2)) : AtJ toks i j2 b2 (withB s y n) (zs ++ [y]) ∧ (if b2 then j ≤ j2 else j2 = j + 2) ∧ j2 ≤ toks.length := by
  have hlt := (List.getElem?_eq_some_iff.1 hx).1
  have hs : ∀ c, sgB toks j c = (x == 1 && y == c) := fun c => by unfold sgB; rw [hx]
  have hl := letterB_at hx zs
  have hy0 : y ≠ 0 := by intro e; subst e; revert hy; decide
  by_cases hk : x = 1
  · have hly : letterB toks j zs = y := by rw [hl, if_pos ⟨hk, hy⟩, if_neg hn]
    have hm : mustS toks j false y = (j + 1, false) := by unfold mustS; rw [hs]; simp [hk]
    rw [hm] at h1
    cases h1
    by_cases hnm : nmB toks (j + 1) (limitB y).1 (limitB y).2 = true
    · have : numS toks (j + 1) false (limitB y).1 (limitB y).2 = (nAt toks (j + 1), j + 1 + 1, false) := by unfold numS; simp [hnm]
      rw [this] at h2
      cases h2
      refine ⟨⟨fun _ r hr => h.1 rfl r (.step (by rw [hly]; exact hy0) (by rw [hly]; exact hnm) (by rw [hly]; exact hr)), fun e => by cases e⟩, rfl, ?_⟩
      exact nmB_lt hnm
    · have hnm : nmB toks (j + 1) (limitB y).1 (limitB y).2 = false := by simpa using hnm
      have : numS toks (j + 1) false (limitB y).1 (limitB y).2 = (0, j + 1, true) := by unfold numS; simp [hnm]
      rw [this] at h2
      cases h2
      refine ⟨⟨fun e => (by cases e), fun _ => .inl (h.1 rfl _ (.bad (by rw [hly]; exact hy0) (by rw [hly]; exact hnm)))⟩, ?_, hlt⟩
      simp
  · have hk' : (x == 1) = false := by simpa using hk
    have hm : mustS toks j false y = (j, true) := by unfold mustS; rw [hs]; simp [hk']
    rw [hm] at h1
    cases h1
    have : numS toks j true (limitB y).1 (limitB y).2 = (0, j, true) := by unfold numS; simp
    rw [this] at h2
    cases h2
    refine ⟨⟨fun e => (by cases e), fun _ => .inr ⟨s, h.1 rfl _ (.stop (by rw [hl, if_neg (fun q => hk q.1)])), fun c => by rw [hs, hk']; rfl⟩⟩, ?_, by omega⟩
    simp
theorem info_i32 : (Tryd.prog.info? 21).map (fun i => (i.zero, i.size, i.bytes)) = some (some (.int .i32 0), 1, 4) := by kernel_rfl
end Go.Proofs.YtechccoongilcaaDoor
/- The program's package read: nodes compared. -/
namespace Go.Proofs.YtechccoongilcaaDoor
open Go.RowKit
set_option linter.unusedVariables false
set_option linter.unusedSimpArgs false
theorem words_len {a b : List Int} (h : a.length ≠ b.length) : (a == b) = false := by
  rw [beq_eq_false_iff_ne]
  rintro rfl
  exact h rfl
set_option maxHeartbeats 2000000 in
theorem pequal_any (xs ys : List Int) (A B : Option Addr) (n m ca cb : Nat) (w : World) (ha : Ints w A n xs) (hb : Ints w B m ys) : Calls Tryd.prog 38 #[.slice A n ca, .slice B m cb] w fun e w' => e = .returned (.bool (xs == ys)) ∧ Below w.heap.size w w' := by
  have hla := ha.1
  have hlb := hb.1
  have hna := ha.2.1
  by_cases hnm : n = m
  rotate_left
  · have HV := Lib.hid (words_len (a := xs) (b := ys) (by omega))
    have h1 : ((n : Int) != (m : Int)) = true := by simp; omega
    clear ha hb hla hlb
    go_enter Tryd.func38, Tryd.ntmps38
    go_wp2_with fail
    go_ret
    exact ⟨ret_bool (by rw [HV.out]), Below.refl _ _⟩
  subst hnm
  have HA := Lib.hid ha
  have HB := Lib.hid hb
  have h1 : ((n : Int) != (n : Int)) = false := by simp
  clear ha hb
  go_enter Tryd.func38, Tryd.ntmps38
  go_wp2_with fail
  go_loopw [13] (fun i wr => ∃ k d : Nat, k ≤ n ∧ i = .int .i64 k ∧ (∀ j, j < k → xs[j]? = ys[j]?) ∧ wr = w.drewN d) (fun i _ => n - (intOf i).toNat)
  case atStart => exact ⟨0, 0, by omega, rfl, fun j hj => by omega, rfl⟩
  case round =>
    obtain ⟨k, d, hk, rfl, hall, rfl⟩ := hrel
    have HL := Lib.hid hall
    clear hall
    by_cases hlt : k < n
    · obtain ⟨b1, o1, rfl, hc1⟩ := HA.out.at_ hlt
      obtain ⟨b2, o2, rfl, hc2⟩ := HB.out.at_ hlt
      have hk2 : (k : Int) < (n : Int) := by omega
      have e1 : xs[k]? = some (xs[k]?.getD 0) := by rw [List.getElem?_eq_getElem (by omega)]; rfl
      have e2 : ys[k]? = some (ys[k]?.getD 0) := by rw [List.getElem?_eq_getElem (by omega)]; rfl
      have E1 := Lib.hid e1
      have E2 := Lib.hid e2
      clear e1 e2
      generalize xs[k]?.getD 0 = u at hc1 E1
      generalize ys[k]?.getD 0 = v at hc2 E2
      by_cases huv : u = v
      · subst huv
        go_wp2_with fail
        go_quiet (fail)
        go_wp2_with fail
        go_roundw
        case rel => exact ⟨k + 1, _, by omega, by go_num, fun j hj => by
          by_cases e : j = k
          · subst e; rw [E1.out, E2.out]
          · exact HL.out j (by omega), rfl⟩
        case measure => simp [intOf]; omega
      · have h3 : (u != v) = true := by simpa using huv
        have HW := Lib.hid (words_ne E1.out E2.out huv)
        go_wp2_with fail
        go_quiet (fail)
        go_wp2_with fail
        go_ret
        exact ⟨ret_bool (by rw [HW.out]), below_drewN (below_drewN (Below.refl _ _) _) _⟩
    · have HW := Lib.hid (words_eq (a := xs) (b := ys) (by omega) (fun j hj => HL.out j (by omega)))
      have hk2 : (n : Int) ≤ (k : Int) := by omega
      go_wp2_with fail
      go_ret
      exact ⟨ret_bool (by rw [HW.out]), below_drewN (Below.refl _ _) d⟩
theorem pequal_to {xs ys : List Int} {v : Bool} (hv : (xs == ys) = v) {A B : Option Addr} {n m ca cb : Nat} (w : World) (ha : Ints w A n xs) (hb : Ints w B m ys) : Calls Tryd.prog 38 #[.slice A n ca, .slice B m cb] w fun e w' => e = .returned (.bool v) ∧ Below w.heap.size w w' := by
  subst hv; exact pequal_any xs ys A B n m ca cb w ha hb
end Go.Proofs.YtechccoongilcaaDoor
/- The program's package read: a float. -/
namespace Go.Proofs.YtechccoongilcaaDoor
open Go.RowKit
set_option linter.unusedVariables false
set_option linter.unusedSimpArgs false
theorem thing_float {toks : List Tok} {size : Int} {g : Nat} {w : World} {i j0 j1 j2 : Nat} {b0 b1 b2 : Bool} {n0 n1 n2 : Int} {row opn : Value} {s : Sty} {mp : Value} (ho : sgB toks i 60 = true)
    (hv0 : sideS toks (i + 1) false = (n0, j0, b0)) (hv1 : numS toks j0 b0 1 maxN = (n1, j1, b1)) (hv2 : numS toks j1 b1 1 maxN = (n2, j2, b2)) (h : Rd toks size g w i false row opn s mp) :
    Calls Tryd.prog 36 #[.pointer (some ⟨g, 0, none⟩)] w fun e w' => e = .returned (.iface 116 (.agg #[.int .i64 n0, .int .i64 n1, .int .i64 n2])) ∧ Bar g w w' ∧ Rd toks size g w' j2 b2 row opn s mp := by
  have H1 := Lib.hid (sgB_one ho (show (60 : Int) ≠ 91 by decide))
  have H2 := Lib.hid (sgB_one ho (show (60 : Int) ≠ 40 by decide))
  have H3 := Lib.hid (sgB_one ho (show (60 : Int) ≠ 123 by decide))
  have H4 := Lib.hid ho
  have HV0 := Lib.hid hv0
  have HV1 := Lib.hid hv1
  have HV2 := Lib.hid hv2
  have HR := Lib.hid h
  have HB := Lib.hid (Bar.refl g w)
  clear ho hv0 hv1 hv2 h
  go_enter Tryd.func36, Tryd.ntmps36
  go_wp2_with fail
  refine (psign_no (by rw [H1.out]; rfl) HR.out).mono ?_
  rintro e w1 ⟨rfl, hb, hs1, hr⟩
  have HR := Lib.hid hr
  have HB := Lib.hid (HB.out.trans hb)
  clear hb hr
  go_wp2_with fail
  refine (psign_no (by rw [H2.out]; rfl) HR.out).mono ?_
  rintro e w2 ⟨rfl, hb, hs2, hr⟩
  have HR := Lib.hid hr
  have HB := Lib.hid (HB.out.trans hb)
  clear hb hr
  go_wp2_with fail
  refine (psign_no (by rw [H3.out]; rfl) HR.out).mono ?_
  rintro e w3 ⟨rfl, hb, hs3, hr⟩
  have HR := Lib.hid hr
  have HB := Lib.hid (HB.out.trans hb)
  clear hb hr
  go_wp2_with fail
  refine (psign_yes H4.out HR.out).mono ?_
  rintro e w4 ⟨rfl, hb, hs4, hr⟩
  have HR := Lib.hid (hr.bar (Bar.refl g _).drew rfl)
  have HB := Lib.hid (HB.out.trans hb).drew
  clear hb hr
  go_wp2_with fail
  go_region_held3 (fun _ => True) (trivial) (first
    | (go_at_call 61; ((with_reducible refine (pside_to HV0.out HR.out).mono ?_); rintro e w5 ⟨rfl, hb, hs5, hr⟩; have HR0 := Lib.hid hr; have HB0 := Lib.hid (HB.out.trans hb); clear hb hr))
    | (go_at_call 60; ((with_reducible refine (plen_to HV1.out HR0.out).mono ?_); rintro e w6 ⟨rfl, hb, hs6, hr⟩; have HR1 := Lib.hid hr; have HB1 := Lib.hid (HB0.out.trans hb); clear hb hr))
    | (go_at_call 60; ((with_reducible refine (plen_to HV2.out HR1.out).mono ?_); rintro e w7 ⟨rfl, hb, hs7, hr⟩; have HR2 := Lib.hid hr; have HB2 := Lib.hid (HB1.out.trans hb); clear hb hr)))
  go_wp2_with fail
  go_ret
  exact ⟨rfl, HB2.out, HR2.out⟩
end Go.Proofs.YtechccoongilcaaDoor
