import Derived.Test.YtechccoongilcaaDoorJD701
import Derived.Laws.RangeAny
import Derived.Test.YtechccoongilcaaDoorJD700
/- A region that draws its order: what holds of each set of operations that have come up. Nothing of the program stands here. -/
namespace Go.Proofs.YtechccoongilcaaDoor
open Go
set_option linter.unusedVariables false
set_option linter.unusedSimpArgs false
section
variable {P : Program} {ops : Array Oper} {Q : Exit → Act → World → Prop} {md : Region.Mode}
theorem count_listed {listed : Array Bool} {i : Nat} (h : listed.getD i true = false) : (listed.setIfInBounds i true).toList.count false + 1 = listed.toList.count false := by
  have hi : i < listed.size := by
    rcases Nat.lt_or_ge i listed.size with h' | h'
    · exact h'
    · rw [Array.getD_eq_getD_getElem?, Array.getElem?_eq_none h'] at h; cases h
  have hv : listed[i] = false := by
    rw [Array.getD_eq_getD_getElem?, Array.getElem?_eq_getElem hi] at h; exact h
  have hm : false ∈ listed.toList := by rw [← hv]; simp
  have hpos := List.count_pos_iff.2 hm
  rw [Array.toList_setIfInBounds, List.count_set (by simpa using hi)]
  have hl : (listed.toList[i]'(by simpa using hi) == false) = true := by simp [hv]
  rw [if_pos hl, if_neg (by decide)]
  omega
theorem ready_left {listed : Array Bool} (h : listed.toList.count false = 0) : Region.ready md ops listed = [] := by
  rw [List.eq_nil_iff_forall_not_mem]
  intro i hi
  have := count_listed (mem_ready.1 hi).1
  omega
/-- I holds at the beginning, and behind each operation that may come up. -/
theorem wpAny_inv {I : Array Bool → Act → World → Prop} (hstep : ∀ listed a w i, I listed a w → i ∈ Region.ready md ops listed → wpOp P ops Q i (I (listed.setIfInBounds i true)) a w)
    (hend : ∀ listed a w, I listed a w → Region.ready md ops listed = [] → Q .normal a w) : ∀ (f : Nat) (listed : Array Bool) (a : Act) (w : World), listed.toList.count false ≤ f → I listed a w → wpAny P md ops Q f listed a w := by
  intro f
  induction f with
  | zero =>
    intro listed a w hf h
    have hr : Region.ready md ops listed = [] := ready_left (by omega)
    exact ⟨hr, hend _ _ _ h hr⟩
  | succ f ih =>
    intro listed a w hf h
    refine ⟨hend _ _ _ h, fun i hi => ?_⟩
    exact wpOp_mono (fun a' w' h' => ih _ _ _ (by have := count_listed (mem_ready.1 hi).1; omega) h') (hstep _ _ _ _ h hi)
def waitsB (ops : Array Oper) (i j : Nat) : Bool := match ops[i]? with
  | some o => o.after.any (fun e => Region.binds .any e && e.on == j)
  | none => false
/-- what an operation waits for has come up. -/
theorem ready_on {listed : Array Bool} {i j : Nat} (hi : i ∈ Region.ready .any ops listed) (hc : waitsB ops i j = true) : listed.getD j false = true := by
  obtain ⟨_, o, ho, hall⟩ := mem_ready.1 hi
  unfold waitsB at hc
  rw [ho] at hc
  obtain ⟨e, he, hb⟩ := Array.any_eq_true'.1 hc
  simp only [Bool.and_eq_true, beq_iff_eq] at hb
  have := hall e he hb.1
  rw [hb.2] at this
  exact this
/-- where nothing more may come up, all have. -/
theorem all_listed (hb : backB ops = true) {listed : Array Bool} (hs : listed.size = ops.size) (hr : Region.ready .any ops listed = []) : ∀ j, j < ops.size → listed.getD j false = true := by
  intro j
  induction j using Nat.strongRecOn with
  | _ j ih =>
    intro hj
    rcases hv : listed.getD j false with _ | _
    · exfalso
      have hv' : listed.getD j true = false := by
        rw [Array.getD_eq_getD_getElem?, Array.getElem?_eq_getElem (by omega : j < listed.size)] at hv ⊢
        exact hv
      have hoj : ops[j]? = some ops[j] := Array.getElem?_eq_getElem hj
      have hm : j ∈ Region.ready .any ops listed := mem_ready.2 ⟨hv', ops[j], hoj, fun e he _ => by
        have hlt := (backB_spec hb hoj).1 e he
        exact ih e.on hlt (by omega)⟩
      rw [hr] at hm; cases hm
    · rfl
end
end Go.Proofs.YtechccoongilcaaDoor
/- A character of a script, written as UTF-8 anew, is the bytes that stand there. Nothing of the program stands here. -/
namespace Go.Proofs.YtechccoongilcaaDoor
open Go
set_option linter.unusedVariables false
set_option linter.unusedSimpArgs false
theorem get_data (s : ByteArray) (i : Nat) (h : i < s.size) : s.data[i]? = some (s.get! i) := by
  have h2 : i < s.data.size := h
  rw [Array.getElem?_eq_getElem h2]
  show some _ = some (s.data[i]!)
  rw [getElem!_pos s.data i h2]
theorem extract_list (s : ByteArray) (p : Nat) : ∀ (z : Nat) (l : List UInt8), l.length = z → p + z ≤ s.size → (∀ j u, l[j]? = some u → s.get! (p + j) = u) → s.extract p (p + z) = ⟨l.toArray⟩ := by
  intro z l hl hz hu
  apply ByteArray.ext
  rw [ByteArray.data_extract]
  apply Array.ext'
  apply List.ext_getElem?
  intro j
  have hs : s.data.size = s.size := rfl
  rw [Array.getElem?_toList, Array.getElem?_extract]
  simp only [List.getElem?_toArray, Array.getElem?_toList]
  by_cases hj : j < z
  · have hl2 : l[j]? = some l[j] := List.getElem?_eq_getElem (by omega)
    rw [hl2, ← hu j _ hl2]
    rw [if_pos (by omega)]
    exact get_data s (p + j) (by omega)
  · rw [List.getElem?_eq_none (by omega), if_neg (by omega)]
theorem ofNat_get (s : ByteArray) (i n : Nat) (h : n = (s.get! i).toNat) : s.get! i = UInt8.ofNat n := by
  subst h; simp
theorem encode_rune {s : ByteArray} {p : Nat} (hz : sizeB s p ≠ 0) : Utf8.encode (runeB s p (sizeB s p)) = s.extract p (p + sizeB s p) := by
  have hin := sizeB_in (s := s) (k := p) (by omega)
  have hk : p < s.size := by omega
  have hs := sizeB_sizeN s p hk
  have e0 : bAt s p = ((s.get! p).toNat : Int) := rfl
  have e1 : bAt s (p + 1) = ((s.get! (p + 1)).toNat : Int) := rfl
  have e2 : bAt s (p + 2) = ((s.get! (p + 2)).toNat : Int) := rfl
  have e3 : bAt s (p + 3) = ((s.get! (p + 3)).toNat : Int) := rfl
  have g0 := ofNat_get s p
  have g1 := ofNat_get s (p + 1)
  have g2 := ofNat_get s (p + 2)
  have g3 := ofNat_get s (p + 3)
  generalize hb0 : (s.get! p).toNat = b0 at *
  generalize hb1 : (s.get! (p + 1)).toNat = b1 at *
  generalize hb2 : (s.get! (p + 2)).toNat = b2 at *
  generalize hb3 : (s.get! (p + 3)).toNat = b3 at *
  unfold sizeN at hs
  split at hs
  · rename_i c
    have hr : runeB s p (sizeB s p) = (b0 : Int) := by rw [hs]; show bAt s p = _; rw [e0]
    rw [hs] at hin
    rw [hr, hs]
    rw [extract_list s p 1 [UInt8.ofNat b0] rfl hin (fun j u hj => by
      match j, hj with
      | 0, hj => exact (g0 b0 rfl).trans (Option.some.inj hj))]
    unfold Utf8.encode
    have v : Utf8.valid (b0 : Int) = true := by unfold Utf8.valid; simp; omega
    simp only [v, if_true, Int.toNat_natCast, show b0 < 128 by omega]
  split at hs
  · rename_i c1 c
    have hr : runeB s p (sizeB s p) = ((64 * (b0 - 192) + (b1 - 128) : Nat) : Int) := by rw [hs]; show 64 * (bAt s p - 192) + bAt s (p + 1) - 128 = _; rw [e0, e1]; omega
    rw [hs] at hin
    rw [hr, hs]
    generalize hc : 64 * (b0 - 192) + (b1 - 128) = cc
    rw [extract_list s p 2 [UInt8.ofNat (192 + cc / 64), UInt8.ofNat (128 + cc % 64)] rfl hin (fun j u hj => by
      match j, hj with
      | 0, hj => exact (g0 _ (by omega)).trans (Option.some.inj hj)
      | 1, hj => exact (g1 _ (by omega)).trans (Option.some.inj hj))]
    unfold Utf8.encode
    have v : Utf8.valid (cc : Int) = true := by unfold Utf8.valid; simp; omega
    simp only [v, if_true, Int.toNat_natCast, show ¬ cc < 128 by omega, show cc < 2048 by omega, if_false]
  split at hs
  · rename_i c1 c2 c
    have hr : runeB s p (sizeB s p) = ((64 * (64 * (b0 - 224) + (b1 - 128)) + (b2 - 128) : Nat) : Int) := by rw [hs]; show 64 * (64 * (bAt s p - 224) + bAt s (p + 1) - 128) + bAt s (p + 2) - 128 = _; rw [e0, e1, e2]; omega
    rw [hs] at hin
    rw [hr, hs]
    generalize hc : 64 * (64 * (b0 - 224) + (b1 - 128)) + (b2 - 128) = cc
    rw [extract_list s p 3 [UInt8.ofNat (224 + cc / 4096), UInt8.ofNat (128 + cc / 64 % 64), UInt8.ofNat (128 + cc % 64)] rfl hin (fun j u hj => by
      match j, hj with
      | 0, hj => exact (g0 _ (by omega)).trans (Option.some.inj hj)
      | 1, hj => exact (g1 _ (by omega)).trans (Option.some.inj hj)
      | 2, hj => exact (g2 _ (by omega)).trans (Option.some.inj hj))]
    unfold Utf8.encode
    have v : Utf8.valid (cc : Int) = true := by unfold Utf8.valid; simp; omega
    simp only [v, if_true, Int.toNat_natCast, show ¬ cc < 128 by omega, show ¬ cc < 2048 by omega, show cc < 65536 by omega, if_false]
  split at hs
  · rename_i c1 c2 c3 c
    have hr : runeB s p (sizeB s p) = ((64 * (64 * (64 * (b0 - 240) + (b1 - 128)) + (b2 - 128)) + (b3 - 128) : Nat) : Int) := by rw [hs]; show 64 * (64 * (64 * (bAt s p - 240) + bAt s (p + 1) - 128) + bAt s (p + 2) - 128) + bAt s (p + 3) - 128 = _; rw [e0, e1, e2, e3]; omega
    rw [hs] at hin
    rw [hr, hs]
    generalize hc : 64 * (64 * (64 * (b0 - 240) + (b1 - 128)) + (b2 - 128)) + (b3 - 128) = cc
    rw [extract_list s p 4 [UInt8.ofNat (240 + cc / 262144), UInt8.ofNat (128 + cc / 4096 % 64), UInt8.ofNat (128 + cc / 64 % 64), UInt8.ofNat (128 + cc % 64)] rfl hin (fun j u hj => by
      match j, hj with
      | 0, hj => exact (g0 _ (by omega)).trans (Option.some.inj hj)
      | 1, hj => exact (g1 _ (by omega)).trans (Option.some.inj hj)
      | 2, hj => exact (g2 _ (by omega)).trans (Option.some.inj hj)
      | 3, hj => exact (g3 _ (by omega)).trans (Option.some.inj hj))]
    unfold Utf8.encode
    have v : Utf8.valid (cc : Int) = true := by unfold Utf8.valid; simp; omega
    simp only [v, if_true, Int.toNat_natCast, show ¬ cc < 128 by omega, show ¬ cc < 2048 by omega, show ¬ cc < 65536 by omega, if_false]
  · exact absurd hs hz
theorem bAt_extract (s : ByteArray) (i j k : Nat) (hj : j ≤ s.size) (hk : i + k < j) : bAt (s.extract i j) k = bAt s (i + k) := by
  unfold bAt
  congr 2
  show (s.extract i j).data[k]! = s.data[i + k]!
  have hs : s.data.size = s.size := rfl
  rw [getElem!_def, getElem!_def, ByteArray.data_extract, Array.getElem?_extract, if_pos (by omega)]
theorem nstF_extract (s : ByteArray) (i j : Nat) (hj : j ≤ s.size) : ∀ (n k : Nat) (c : Bool), i + k + n ≤ j → nstF (s.extract i j) n k c = nstF s n (i + k) c
  | 0, k, c, _ => rfl
  | n + 1, k, c, h => by
    have ih := fun c => nstF_extract s i j hj n (k + 1) c (by omega)
    rw [nstF, nstF, bAt_extract s i j k hj (by omega)]
    simp only [ih, show i + (k + 1) = i + k + 1 by omega]
end Go.Proofs.YtechccoongilcaaDoor
/- A part of a script, as a script of its own: characters and numbers read there as they read in the whole. Nothing of the program stands here. -/
namespace Go.Proofs.YtechccoongilcaaDoor
open Go
set_option linter.unusedVariables false
set_option linter.unusedSimpArgs false
/-- t is the part of s that begins at a. -/
structure Ext (s t : ByteArray) (a : Nat) : Prop where
  room : a + t.size ≤ s.size
  at_ : ∀ i, i < t.size → bAt t i = bAt s (a + i)
theorem ext_extract {s : ByteArray} {a b : Nat} (hab : a ≤ b) (hb : b ≤ s.size) : Ext s (s.extract a b) a :=
  ⟨by rw [ByteArray.size_extract]; omega, fun i hi => bAt_extract s a b i hb (by rw [ByteArray.size_extract] at hi; omega)⟩
theorem sizeN_short {n m b0 b1 b2 b3 c0 c1 c2 c3 : Nat} (h0 : c0 = b0) (h1 : 1 < m → c1 = b1) (h2 : 2 < m → c2 = b2) (h3 : 3 < m → c3 = b3) (hm : m ≤ n)
    (hz : sizeN n b0 b1 b2 b3 ≠ 0) (hle : sizeN n b0 b1 b2 b3 ≤ m) : sizeN m c0 c1 c2 c3 = sizeN n b0 b1 b2 b3 := by
  subst h0
  unfold sizeN at hz hle ⊢
  by_cases p1 : c0 ≤ 127
  · rw [if_pos p1, if_pos p1]
  rw [if_neg p1] at hz hle
  rw [if_neg p1, if_neg p1]
  by_cases p2 : (194 ≤ c0 ∧ c0 ≤ 223) ∧ (1 < n ∧ 128 ≤ b1 ∧ b1 ≤ 191)
  · rw [if_pos p2] at hle
    have := h1 (by omega)
    rw [if_pos p2, if_pos (by omega)]
  rw [if_neg p2] at hz hle
  have q2 : ¬ ((194 ≤ c0 ∧ c0 ≤ 223) ∧ (1 < m ∧ 128 ≤ c1 ∧ c1 ≤ 191)) := by
    intro q; have := h1 q.2.1; omega
  rw [if_neg p2, if_neg q2]
  by_cases p3 : 224 ≤ c0 ∧ c0 ≤ 239 ∧ (1 < n ∧ 128 ≤ b1 ∧ b1 ≤ 191) ∧ (2 < n ∧ 128 ≤ b2 ∧ b2 ≤ 191) ∧ (c0 = 224 → 160 ≤ b1) ∧ (c0 = 237 → b1 ≤ 159)
  · rw [if_pos p3] at hle
    have := h1 (by omega)
    have := h2 (by omega)
    rw [if_pos p3, if_pos (by omega)]
  rw [if_neg p3] at hz hle
  have q3 : ¬ (224 ≤ c0 ∧ c0 ≤ 239 ∧ (1 < m ∧ 128 ≤ c1 ∧ c1 ≤ 191) ∧ (2 < m ∧ 128 ≤ c2 ∧ c2 ≤ 191) ∧ (c0 = 224 → 160 ≤ c1) ∧ (c0 = 237 → c1 ≤ 159)) := by
    intro q; have := h1 q.2.2.1.1; have := h2 q.2.2.2.1.1; omega
  rw [if_neg p3, if_neg q3]
  by_cases p4 : 240 ≤ c0 ∧ c0 ≤ 244 ∧ (1 < n ∧ 128 ≤ b1 ∧ b1 ≤ 191) ∧ (2 < n ∧ 128 ≤ b2 ∧ b2 ≤ 191) ∧ (3 < n ∧ 128 ≤ b3 ∧ b3 ≤ 191) ∧ (c0 = 240 → 144 ≤ b1) ∧ (c0 = 244 → b1 ≤ 143)
  · rw [if_pos p4] at hle
    have := h1 (by omega)
    have := h2 (by omega)
    have := h3 (by omega)
    rw [if_pos p4, if_pos (by omega)]
  rw [if_neg p4] at hz
  exact absurd rfl hz
section
variable {s t : ByteArray} {a : Nat} (h : Ext s t a)
include h
theorem Ext.get {i : Nat} (hi : i < t.size) : (t.get! i).toNat = (s.get! (a + i)).toNat := by
  have := h.at_ i hi
  unfold bAt at this
  omega
theorem Ext.sizeB {k : Nat} (hz : sizeB s (a + k) ≠ 0) (hk : k + Go.Proofs.YtechccoongilcaaDoor.sizeB s (a + k) ≤ t.size) : Go.Proofs.YtechccoongilcaaDoor.sizeB t k = Go.Proofs.YtechccoongilcaaDoor.sizeB s (a + k) := by
  have hr := h.room
  have h1 : a + k < s.size := by omega
  rw [sizeB_sizeN s (a + k) h1] at hz hk ⊢
  rw [sizeB_sizeN t k (by omega)]
  refine sizeN_short (h.get (by omega)) (fun q => ?_) (fun q => ?_) (fun q => ?_) (by omega) hz (by omega)
  · rw [h.get (by omega), Nat.add_assoc]
  · rw [h.get (by omega), Nat.add_assoc]
  · rw [h.get (by omega), Nat.add_assoc]
theorem Ext.runeP {k : Nat} (base : Int) : ∀ n, k + n ≤ t.size → Go.Proofs.YtechccoongilcaaDoor.runeP t k base n = Go.Proofs.YtechccoongilcaaDoor.runeP s (a + k) base n
  | 0, _ => rfl
  | 1, hn => by unfold Go.Proofs.YtechccoongilcaaDoor.runeP; rw [h.at_ k (by omega)]
  | n + 2, hn => by
    rw [Go.Proofs.YtechccoongilcaaDoor.runeP, Go.Proofs.YtechccoongilcaaDoor.runeP, Ext.runeP base (n + 1) (by omega), h.at_ (k + (n + 1)) (by omega), Nat.add_assoc]
theorem Ext.runeB {k n : Nat} (hn : k + n ≤ t.size) (h0 : 0 < n) : Go.Proofs.YtechccoongilcaaDoor.runeB t k n = Go.Proofs.YtechccoongilcaaDoor.runeB s (a + k) n := by
  unfold Go.Proofs.YtechccoongilcaaDoor.runeB
  rw [h.runeP _ n hn, h.at_ k (by omega)]
theorem Ext.digB {k : Nat} (hk : k < t.size) : Go.Proofs.YtechccoongilcaaDoor.digB t k = Go.Proofs.YtechccoongilcaaDoor.digB s (a + k) := by
  have hr := h.room
  unfold Go.Proofs.YtechccoongilcaaDoor.digB
  rw [inB_at hk, inB_at (show a + k < s.size by omega), h.at_ k hk]
theorem Ext.numF (hend : Go.Proofs.YtechccoongilcaaDoor.digB s (a + t.size) = false) : ∀ (f f' : Nat) (n : Int) (e : Nat), e ≤ t.size → t.size ≤ e + f → s.size ≤ a + e + f' → Go.Proofs.YtechccoongilcaaDoor.numF s f' n (a + e) = ((Go.Proofs.YtechccoongilcaaDoor.numF t f n e).1, a + (Go.Proofs.YtechccoongilcaaDoor.numF t f n e).2) := by
  intro f
  have hr := h.room
  have hdig : ∀ e, e ≤ t.size → Go.Proofs.YtechccoongilcaaDoor.digB t e = Go.Proofs.YtechccoongilcaaDoor.digB s (a + e) := fun e he => by
    by_cases hlt : e < t.size
    · exact h.digB hlt
    · obtain rfl : e = t.size := by omega
      rw [hend]; exact inB_ge (by omega) _ _
  induction f with
  | zero =>
    intro f' n e he hf hf'
    have hd : Go.Proofs.YtechccoongilcaaDoor.digB t e = false := inB_ge (by omega) _ _
    rw [numF_end (by rw [← hdig e he]; exact hd), numF_end hd]
  | succ f ih =>
    intro f' n e he hf hf'
    rcases hd : Go.Proofs.YtechccoongilcaaDoor.digB t e with _ | _
    · rw [numF_end (by rw [← hdig e he]; exact hd), numF_end hd]
    · have hl := inB_lt hd
      match f', hf' with
      | 0, hf' => omega
      | f' + 1, hf' =>
        rw [Go.Proofs.YtechccoongilcaaDoor.numF, ← hdig e he, hd, if_pos rfl, ← h.at_ e hl, Go.Proofs.YtechccoongilcaaDoor.numF, hd, if_pos rfl]
        exact ih f' _ (e + 1) (by omega) (by omega) (by omega)
theorem Ext.numB (hend : Go.Proofs.YtechccoongilcaaDoor.digB s (a + t.size) = false) {k : Nat} (hk : k ≤ t.size) : Go.Proofs.YtechccoongilcaaDoor.numB s (a + k) = ((Go.Proofs.YtechccoongilcaaDoor.numB t k).1, a + (Go.Proofs.YtechccoongilcaaDoor.numB t k).2) := h.numF hend _ _ 0 k hk (by omega) (by omega)
end
/-- a row of digits alone: its end. -/
theorem numF_all {t : ByteArray} (hd : ∀ i, i < t.size → digB t i = true) : ∀ (f : Nat) (n : Int) (e : Nat), e ≤ t.size → t.size ≤ e + f → (numF t f n e).2 = t.size
  | 0, n, e, h1, h2 => by show e = t.size; omega
  | f + 1, n, e, h1, h2 => by
    by_cases hlt : e < t.size
    · rw [numF, hd e hlt, if_pos rfl]
      exact numF_all hd f _ (e + 1) (by omega) (by omega)
    · have he : digB t e = false := inB_ge hlt _ _
      rw [numF_end he]; show e = t.size; omega
/-- a character's first byte tells whether it is of one byte; then it is that byte. -/
theorem rune_byte {s : ByteArray} {k : Nat} (hz : sizeB s k ≠ 0) : (bAt s k ≤ 127 ∧ sizeB s k = 1 ∧ runeB s k (sizeB s k) = bAt s k) ∨ (128 ≤ bAt s k ∧ 2 ≤ sizeB s k ∧ 128 ≤ runeB s k (sizeB s k)) := by
  have hk : k < s.size := by have := sizeB_in (s := s) (k := k) (by omega); omega
  by_cases h1 : sizeB s k = 1
  · refine .inl ⟨byte_one h1, h1, by rw [h1]; rfl⟩
  · have h2 : 2 ≤ sizeB s k := by omega
    have hb := bytes_high h2 0 (by omega)
    rw [Nat.add_zero] at hb
    have hg := bAt_get s k hk
    have hd := decode_high s k hk (by omega)
    obtain ⟨e, hp⟩ := (decode_size s k hk).2 hz
    rw [e] at hd
    exact .inr ⟨hb, h2, by have := hd.1; simp only at this; omega⟩
end Go.Proofs.YtechccoongilcaaDoor
/- A script, LF, and another one, as bytes. Nothing of the program stands here. -/
namespace Go.Proofs.YtechccoongilcaaDoor
open Go
set_option linter.unusedVariables false
set_option linter.unusedSimpArgs false
theorem bAt_left (x y : ByteArray) (i : Nat) (h : i < x.size) : bAt (x ++ y) i = bAt x i := by
  unfold bAt
  congr 2
  show (x ++ y).data[i]! = x.data[i]!
  rw [ByteArray.data_append, getElem!_def, getElem!_def, Array.getElem?_append_left h]
theorem bAt_right (x y : ByteArray) (i : Nat) : bAt (x ++ y) (x.size + i) = bAt y i := by
  unfold bAt
  congr 2
  show (x ++ y).data[x.size + i]! = y.data[i]!
  have hs : x.data.size = x.size := rfl
  rw [ByteArray.data_append, getElem!_def, getElem!_def, Array.getElem?_append_right (by omega), hs, Nat.add_sub_cancel_left]
theorem parted_append (a b : ByteArray) : Parted a b (a ++ ⟨#[10]⟩ ++ b) := by
  have h1 : (a ++ (⟨#[10]⟩ : ByteArray)).size = a.size + 1 := by rw [ByteArray.size_append]; rfl
  refine ⟨by rw [ByteArray.size_append, h1], fun i hi => ?_, ?_, fun i hi => ?_⟩
  · rw [bAt_left _ _ _ (by rw [h1]; omega), bAt_left _ _ _ hi]
  · rw [bAt_left _ _ _ (by rw [h1]; omega)]
    have := bAt_right a ⟨#[10]⟩ 0
    rw [Nat.add_zero] at this
    rw [this]; rfl
  · have := bAt_right (a ++ ⟨#[10]⟩) b i
    rw [h1] at this
    exact this
/-- each token stands somewhere. -/
theorem tok_stands {s : ByteArray} {o : List Tok} {q k : Nat} {x : Tok} (h : lexB s = (some o, q)) (hx : o[k]? = some x) : ∃ p, TokOk s x p := by
  obtain ⟨e, l, hp, _⟩ := lexB_placed h
  have hk : k < o.length := (List.getElem?_eq_some_iff.1 hx).1
  obtain ⟨e', l', hp'⟩ := hp.take o.length rfl (k + 1) (by omega)
  have e2 : o.take (k + 1) = o.take k ++ [x] := by rw [List.take_add_one, hx]; rfl
  rw [e2] at hp'
  obtain ⟨e1, l1, p, _, ht, _⟩ := hp'.last
  exact ⟨p, ht⟩
end Go.Proofs.YtechccoongilcaaDoor
/- What a script is read as that is cut ahead of the place where it is refused; what two are read as, one behind the other. Nothing of the program stands here. -/
namespace Go.Proofs.YtechccoongilcaaDoor
open Go
set_option linter.unusedVariables false
set_option linter.unusedSimpArgs false
theorem Headed.all {a s : ByteArray} (h : Headed a s) (hs : a.size = s.size) : a = s := by
  refine ByteArray.ext (Array.ext hs fun i h1 h2 => ?_)
  have e := h.head i h1
  rw [← bAt_get s i h2, ← bAt_get a i h1] at e
  exact (UInt8.toNat_inj.1 (by exact_mod_cast e)).symm
theorem take_cut (o : List Tok) {b : Nat} (hb : b ≤ o.length) : Cut o (o.take b) b := by
  refine ⟨fun k hk => ?_, ?_⟩
  · unfold sight; rw [List.getElem?_take_of_lt hk]
  · unfold sight; rw [List.getElem?_eq_none (by rw [List.length_take]; omega)]; rfl
theorem read_place {s : ByteArray} {o : List Tok} {q n : Nat} (ho : lexB s = (some o, q)) (hr : Read o s.size (none, n)) : n ≤ s.size := by
  cases hr with
  | rest h1 h2 => obtain ⟨p, e, hp, _⟩ := tok_stands ho h2; omega
  | bad h1 h2 => obtain ⟨p, e, hp, _⟩ := tok_stands ho h2; omega
  | short _ _ => exact Nat.le_refl _
theorem read_cut {s a : ByteArray} {o : List Tok} {q n : Nat} (ho : lexB s = (some o, q)) (hr : Read o s.size (none, n)) (hh : Headed a s) (ha : a.size = n) :
    ∃ o' q' r, lexB a = (some o', q') ∧ Read o' a.size r ∧ (r.1.isSome = true ∨ r = (none, n)) := by
  generalize hz : (none, n) = z at hr
  cases hr with
  | ok h1 => cases hz
  | @rest x b t h1 h2 =>
    injection hz with _ hz
    obtain ⟨p, e, hp, _⟩ := tok_stands ho h2
    have hl := lexB_cut hh ho h2 (by omega)
    have hb : b < o.length := (List.getElem?_eq_some_iff.1 h2).1
    have hc := h1.cut (take_cut o (Nat.le_of_lt hb)) (Nat.le_refl _)
    refine ⟨_, _, _, hl, .ok (x := x) ?_, .inl rfl⟩
    rw [List.length_take, Nat.min_eq_left (by omega)]
    exact hc
  | @bad b t h1 h2 =>
    injection hz with _ hz
    obtain ⟨p, e, hp, _⟩ := tok_stands ho h2
    have hl := lexB_cut hh ho h2 (by omega)
    have hb : b < o.length := (List.getElem?_eq_some_iff.1 h2).1
    have hc := h1.cut (take_cut o (Nat.le_of_lt hb)) (Nat.le_refl _)
    refine ⟨_, _, _, hl, .short (p := b) hc (by rw [List.length_take]; omega), .inr (by rw [ha, hz])⟩
  | short h1 h2 =>
    injection hz with _ hz
    obtain rfl := hh.all (by omega)
    exact ⟨_, _, _, ho, .short h1 h2, .inr (by rw [ha])⟩
/-! ### one behind the other -/
theorem append_behind (o l : List Tok) (A : Nat) : Behind l (o ++ l.map (shiftT A)) o.length := by
  intro k
  unfold sight
  rw [List.getElem?_append_right (by omega), Nat.add_sub_cancel_left, List.getElem?_map, Option.map_map]
  rfl
theorem append_alike (o l : List Tok) : Alike o (o ++ l) o.length := by
  intro k hk
  unfold sight
  rw [List.getElem?_append_left hk]
/-- the nodes of both. -/
theorem Parse.both {o l : List Tok} {A : Nat} {x : List Nd} {r : Res (List Nd)} (h1 : Parse o true 0 [] (.ok x o.length)) (h2 : Parse l true 0 [] r) : Parse (o ++ l.map (shiftT A)) true 0 [] (r.moved x o.length) := by
  have h3 := h2.behind (append_behind o l A) x
  simp only [if_true, List.append_nil, Nat.add_zero] at h3
  exact h1.on (append_alike o _) h3
end Go.Proofs.YtechccoongilcaaDoor
/- Rows within rows, told by places; how much nodes are, place by place. Nothing of the program stands here. -/
namespace Go.Proofs.YtechccoongilcaaDoor
open Go
set_option linter.unusedVariables false
set_option linter.unusedSimpArgs false
/-- the node at place i: its Size keeps within what holds it. -/
def NestAt (l : List Nd) (i : Nat) : Prop := ∀ x, l[i]? = some x → 1 ≤ x.size ∧ (i : Int) + x.size ≤ l.length ∧ (x.kind ≠ 1 → x.size = 1) ∧
  ∀ (k : Nat) (y : Nd), k < i → l[k]? = some y → y.kind = 1 → (i : Int) < k + y.size → (i : Int) + x.size ≤ k + y.size
def Nested (l : List Nd) : Prop := ∀ i, NestAt l i
theorem get_parts {x y : Nd} {inner rest : List Nd} {i : Nat} (h : (x :: (inner ++ rest))[i]? = some y) :
    (i = 0 ∧ y = x) ∨ (∃ j, i = j + 1 ∧ j < inner.length ∧ inner[j]? = some y) ∨ (∃ j, i = inner.length + j + 1 ∧ rest[j]? = some y) := by
  cases i with
  | zero => simp at h; exact .inl ⟨rfl, h.symm⟩
  | succ i =>
    rw [List.getElem?_cons_succ] at h
    rcases Nat.lt_or_ge i inner.length with hi | hi
    · rw [List.getElem?_append_left hi] at h
      exact .inr (.inl ⟨i, rfl, hi, h⟩)
    · rw [List.getElem?_append_right hi] at h
      exact .inr (.inr ⟨i - inner.length, by omega, h⟩)
theorem Forest.nested {l : List Nd} (h : Forest l) : Nested l := by
  induction h with
  | nil => intro i x hx; simp at hx
  | @cons x inner rest h1 h2 h3 h4 ih1 ih2 =>
    intro i z hz
    have hlen : ((x :: (inner ++ rest)).length : Int) = 1 + inner.length + rest.length := by simp; omega
    rw [hlen]
    rcases get_parts hz with ⟨rfl, rfl⟩ | ⟨j, rfl, hj, hj2⟩ | ⟨j, rfl, hj2⟩
    · refine ⟨by omega, by omega, fun hk => ?_, fun k y hk => by omega⟩
      have := h2 hk; subst this; simp at h1; exact h1
    · obtain ⟨a1, a2, a3, a4⟩ := ih1 j z hj2
      refine ⟨a1, by omega, a3, fun k y hk hy hyk hlt => ?_⟩
      rcases get_parts hy with ⟨rfl, rfl⟩ | ⟨m, rfl, hm, hm2⟩ | ⟨m, rfl, hm2⟩
      · rw [h1]; omega
      · have := a4 m y (by omega) hm2 hyk (by omega)
        omega
      · omega
    · obtain ⟨a1, a2, a3, a4⟩ := ih2 j z hj2
      refine ⟨a1, by omega, a3, fun k y hk hy hyk hlt => ?_⟩
      rcases get_parts hy with ⟨rfl, rfl⟩ | ⟨m, rfl, hm, hm2⟩ | ⟨m, rfl, hm2⟩
      · rw [h1] at hlt; omega
      · obtain ⟨_, b2, _⟩ := ih1 m y hm2
        omega
      · have := a4 m y (by omega) hm2 hyk (by omega)
        omega
theorem nested_forest : ∀ (n : Nat) (l : List Nd), l.length ≤ n → Nested l → Forest l
  | _, [], _, _ => .nil
  | 0, x :: t, h, _ => by simp at h
  | n + 1, x :: t, h, hn => by
    have hlen : t.length ≤ n := by simpa using h
    obtain ⟨a1, a2, a3, _⟩ := hn 0 x rfl
    simp only [List.length_cons] at a2
    have e : t = t.take (x.size.toNat - 1) ++ t.drop (x.size.toNat - 1) := (List.take_append_drop _ _).symm
    have hil : (t.take (x.size.toNat - 1)).length = x.size.toNat - 1 := by rw [List.length_take]; omega
    have hdl : (t.drop (x.size.toNat - 1)).length = t.length - (x.size.toNat - 1) := List.length_drop
    rw [e]
    refine .cons (by rw [hil]; omega) (fun hk => ?_) (nested_forest n _ (by omega) ?_) (nested_forest n _ (by omega) ?_)
    · have := a3 hk
      rw [this]; rfl
    · intro j z hz
      have hj : j < x.size.toNat - 1 := by rw [← hil]; exact (List.getElem?_eq_some_iff.1 hz).1
      rw [List.getElem?_take_of_lt hj] at hz
      obtain ⟨b1, b2, b3, b4⟩ := hn (j + 1) z (by rw [List.getElem?_cons_succ]; exact hz)
      have hkind : x.kind = 1 := by
        rcases Decidable.em (x.kind = 1) with hk | hk
        · exact hk
        · have := a3 hk; omega
      have b5 := b4 0 x (by omega) rfl hkind (by omega)
      refine ⟨b1, by rw [hil]; omega, b3, fun k y hk hy hyk hlt => ?_⟩
      rw [List.getElem?_take_of_lt (by omega)] at hy
      have := b4 (k + 1) y (by omega) (by rw [List.getElem?_cons_succ]; exact hy) hyk (by omega)
      omega
    · intro j z hz
      rw [List.getElem?_drop] at hz
      obtain ⟨b1, b2, b3, b4⟩ := hn (x.size.toNat - 1 + j + 1) z (by rw [List.getElem?_cons_succ]; exact hz)
      simp only [List.length_cons] at b2
      refine ⟨b1, by rw [hdl]; omega, b3, fun k y hk hy hyk hlt => ?_⟩
      rw [List.getElem?_drop] at hy
      have := b4 (x.size.toNat - 1 + k + 1) y (by omega) (by rw [List.getElem?_cons_succ]; exact hy) hyk (by omega)
      omega
theorem forest_iff_nested (l : List Nd) : Forest l ↔ Nested l := ⟨Forest.nested, nested_forest _ l (Nat.le_refl _)⟩
/-- where the node at place i ends, if it is a block. -/
def endOf (l : List Nd) (i : Nat) : List Int := match l[i]? with
  | some x => if x.kind = 1 then [(i : Int) + x.size] else []
  | none => []
def AE (l : List Nd) : Nat → List Int
  | 0 => []
  | i + 1 => AE l i ++ endOf l i
theorem mem_endOf {l : List Nd} {i : Nat} {e : Int} : e ∈ endOf l i ↔ ∃ x, l[i]? = some x ∧ x.kind = 1 ∧ e = i + x.size := by
  unfold endOf
  rcases h : l[i]? with _ | x
  · simp
  · by_cases hk : x.kind = 1 <;> simp [hk]
theorem mem_AE {l : List Nd} {e : Int} : ∀ {i : Nat}, e ∈ AE l i ↔ ∃ k x, k < i ∧ l[k]? = some x ∧ x.kind = 1 ∧ e = k + x.size
  | 0 => by simp [AE]
  | i + 1 => by
    rw [AE, List.mem_append, mem_AE, mem_endOf]
    constructor
    · rintro (⟨k, x, h1, h2⟩ | ⟨x, h⟩)
      · exact ⟨k, x, by omega, h2⟩
      · exact ⟨i, x, by omega, h⟩
    · rintro ⟨k, x, h1, h2⟩
      rcases Nat.lt_or_ge k i with hk | hk
      · exact .inl ⟨k, x, hk, h2⟩
      · obtain rfl : k = i := by omega
        exact .inr ⟨x, h2⟩
/-- the ends of the blocks ahead of i that are open at z (still, at least). -/
def opnV (l : List Nd) (i : Nat) (z : Int) : List Int := (AE l i).filter (fun e => decide (z < e))
theorem opnV_zero (l : List Nd) (z : Int) : opnV l 0 z = [] := rfl
theorem opnV_succ (l : List Nd) (i : Nat) (z : Int) : opnV l (i + 1) z = opnV l i z ++ (endOf l i).filter (fun e => decide (z < e)) := by unfold opnV; rw [AE, List.filter_append]
theorem opnV_up (l : List Nd) (i : Nat) {z y : Int} (h : z ≤ y) : (opnV l i z).filter (fun e => decide (y < e)) = opnV l i y := by
  unfold opnV
  rw [List.filter_filter]
  congr 1
  funext e
  rw [Bool.eq_iff_iff]
  simp
  omega
theorem mem_opnV {l : List Nd} {i : Nat} {z e : Int} : e ∈ opnV l i z ↔ z < e ∧ ∃ k x, k < i ∧ l[k]? = some x ∧ x.kind = 1 ∧ e = k + x.size := by
  unfold opnV
  rw [List.mem_filter, mem_AE, decide_eq_true_eq]
  exact And.comm
/-- up to place i all keeps within what holds it. -/
def NestTo (l : List Nd) (i : Nat) : Prop := ∀ j, j < i → NestAt l j
theorem NestTo.zero (l : List Nd) : NestTo l 0 := fun j hj => by omega
theorem NestTo.succ {l : List Nd} {i : Nat} (h : NestTo l i) (k : NestAt l i) : NestTo l (i + 1) := fun j hj => by
  rcases Nat.lt_or_ge j i with hji | hji
  · exact h j hji
  · obtain rfl : j = i := by omega
    exact k
theorem NestTo.all {l : List Nd} {i : Nat} (h : NestTo l i) (hi : l.length ≤ i) : Nested l := fun j => by
  rcases Nat.lt_or_ge j i with hji | hji
  · exact h j hji
  · intro x hx
    rw [List.getElem?_eq_none (by omega)] at hx
    cases hx
/-- what holds place i, the innermost one: its end. -/
def lastEnd (l : List Nd) (i : Nat) : Int := (opnV l i i).getLast?.getD (l.length : Int)
/-- ends, the outermost first. -/
def Falls (L : List Int) : Prop := L.Pairwise (fun a b => b ≤ a)
theorem open_falls {l : List Nd} : ∀ {i : Nat} {z : Int}, NestTo l i → (i : Int) - 1 ≤ z → Falls (opnV l i z)
  | 0, z, _, _ => List.Pairwise.nil
  | i + 1, z, h, hz => by
    rw [opnV_succ]
    refine List.pairwise_append.2 ⟨open_falls (fun j hj => h j (by omega)) (by omega), ?_, fun a ha b hb => ?_⟩
    · refine List.Pairwise.filter _ ?_
      unfold endOf
      rcases l[i]? with _ | x
      · exact List.Pairwise.nil
      · by_cases hk : x.kind = 1
        · simp only [if_pos hk]
          exact List.pairwise_singleton _ _
        · simp only [if_neg hk]; exact List.Pairwise.nil
    · obtain ⟨hb1, _⟩ := List.mem_filter.1 hb
      obtain ⟨x, hx, hxk, rfl⟩ := mem_endOf.1 hb1
      obtain ⟨h1, k, y, hk, hy, hyk, rfl⟩ := mem_opnV.1 ha
      exact (h i (by omega) x hx).2.2.2 k y hk hy hyk (by omega)
theorem last_least {L : List Int} (h : Falls L) {z : Int} (hz : L.getLast? = some z) : ∀ a ∈ L, z ≤ a := by
  obtain ⟨K, rfl⟩ : ∃ K, L = K ++ [z] := by
    obtain ⟨h1, h2⟩ := List.getLast?_eq_some_iff.1 hz
    exact ⟨h1, h2⟩
  intro a ha
  rcases List.mem_append.1 ha with ha | ha
  · exact (List.pairwise_append.1 h).2.2 a ha z (by simp)
  · simp at ha; omega
/-- the node at place i keeps within what holds it just if it does within the innermost one. -/
theorem nestAt_iff {l : List Nd} {i : Nat} {x : Nd} (h : NestTo l i) (hx : l[i]? = some x) : NestAt l i ↔ 1 ≤ x.size ∧ x.size ≤ lastEnd l i - i ∧ (x.kind ≠ 1 → x.size = 1) := by
  have hf := open_falls (z := i) h (by omega)
  have hle : ∀ e ∈ opnV l i i, e ≤ l.length := by
    intro e he
    obtain ⟨_, k, y, hk, hy, _, rfl⟩ := mem_opnV.1 he
    exact (h k hk y hy).2.1
  constructor
  · intro hN
    obtain ⟨a1, a2, a3, a4⟩ := hN x hx
    refine ⟨a1, ?_, a3⟩
    unfold lastEnd
    rcases hg : (opnV l i i).getLast? with _ | z
    · simp; omega
    · obtain ⟨h1, k, y, hk, hy, hyk, rfl⟩ := mem_opnV.1 (List.mem_of_getLast? hg)
      have := a4 k y hk hy hyk h1
      simp; omega
  · rintro ⟨a1, a2, a3⟩ x' hx'
    rw [hx] at hx'
    injection hx' with hx'
    subst hx'
    have hll : lastEnd l i ≤ l.length := by
      unfold lastEnd
      rcases hg : (opnV l i i).getLast? with _ | z
      · simp
      · exact hle z (List.mem_of_getLast? hg)
    refine ⟨a1, by omega, a3, fun k y hk hy hyk hlt => ?_⟩
    have hm : (k : Int) + y.size ∈ opnV l i i := mem_opnV.2 ⟨hlt, k, y, hk, hy, hyk, rfl⟩
    have : lastEnd l i ≤ k + y.size := by
      unfold lastEnd
      rcases hg : (opnV l i i).getLast? with _ | z
      · rw [List.getLast?_eq_none_iff] at hg
        rw [hg] at hm; simp at hm
      · exact last_least hf hg _ hm
    omega
/-- ends that fall: those at c stand last. -/
theorem falls_split {c : Int} : ∀ {L : List Int}, Falls L → (∀ e ∈ L, c ≤ e) → ∃ m, L = L.filter (fun e => decide (c < e)) ++ List.replicate m c
  | [], _, _ => ⟨0, rfl⟩
  | a :: L, h, hc => by
    obtain ⟨h1, h2⟩ := List.pairwise_cons.1 h
    by_cases ha : c < a
    · obtain ⟨m, hm⟩ := falls_split h2 (fun e he => hc e (by simp [he]))
      refine ⟨m, ?_⟩
      rw [List.filter_cons_of_pos (by simpa using ha), List.cons_append, ← hm]
    · have hac : a = c := by have := hc a (by simp); omega
      refine ⟨L.length + 1, ?_⟩
      have hall : ∀ e ∈ L, e = c := fun e he => by have := h1 e he; have := hc e (by simp [he]); omega
      rw [List.filter_eq_nil_iff.2 (fun e he => by
        rcases List.mem_cons.1 he with rfl | he
        · simp; omega
        · have := hall e he; simp; omega)]
      rw [List.nil_append, List.replicate_succ, hac]
      congr 1
      exact List.eq_replicate_iff.2 ⟨rfl, hall⟩
end Go.Proofs.YtechccoongilcaaDoor
/- A document's canonical text, as pieces; what it is read as. Nothing of the program stands here. -/
namespace Go.Proofs.YtechccoongilcaaDoor
open Go
set_option linter.unusedVariables false
set_option linter.unusedSimpArgs false
/-- an attribute, unless it tells what holds anyway. -/
def attrP (c n plain : Int) : List Pc := if n = plain then [] else [.s c, .n n.toNat]
def styP (s : Sty) : List Pc := attrP 109 s.top 0 ++ (attrP 110 s.bottom 0 ++ (attrP 112 s.padTop 0 ++ (attrP 113 s.padBottom 0 ++ (attrP 105 s.inset 0 ++ (attrP 111 s.orphans 2 ++ (attrP 119 s.widows 2 ++ (attrP 104 s.head 0 ++ (attrP 66 s.before 0 ++ (attrP 65 s.after 0 ++ (attrP 73 s.inside 0 ++ attrP 99 s.clear 0))))))))))
def wordsP (ws : List Int) : List Pc := ws.flatMap fun z => [.b 32, .n z.toNat]
/-- a node that has none within. -/
def leafP (x : Nd) : List Pc :=
  if x.kind = 2 then [.s 40, .n x.line.toNat, .b 32, .n x.space.toNat] ++ wordsP x.words ++ [.s 41]
  else if x.kind = 3 then [.s 123, .n x.w.toNat, .b 32, .n x.h.toNat, .s 125]
  else if x.kind = 4 ∧ x.side = 1 then [.s 60, .s 76, .n x.w.toNat, .b 32, .n x.h.toNat, .s 62]
  else if x.kind = 4 ∧ x.side = 2 then [.s 60, .s 82, .n x.w.toNat, .b 32, .n x.h.toNat, .s 62]
  else []
/-- nodes; behind each that stands in none of them, so-and-so. -/
def canF : Nat → List Pc → List Nd → List Pc
  | 0, _, _ => []
  | _ + 1, _, [] => []
  | f + 1, b, x :: t => (if x.kind = 1 then [.s 91] ++ styP x.sty ++ canF f [] (t.take (x.size.toNat - 1)) ++ [.s 93] else leafP x) ++ b ++ canF f b (t.drop (x.size.toNat - 1))
def canP (b : List Pc) (l : List Nd) : List Pc := canF l.length b l
theorem canF_eq : ∀ (f g : Nat) (b : List Pc) (l : List Nd), l.length ≤ f → l.length ≤ g → canF f b l = canF g b l
  | 0, g, b, l, h, _ => by
    have : l = [] := List.eq_nil_of_length_eq_zero (by omega)
    subst this
    cases g <;> simp [canF]
  | f + 1, 0, b, l, _, h => by
    have : l = [] := List.eq_nil_of_length_eq_zero (by omega)
    subst this
    simp [canF]
  | f + 1, g + 1, b, [], _, _ => by simp [canF]
  | f + 1, g + 1, b, x :: t, h, h' => by
    simp only [List.length_cons] at h h'
    rw [canF, canF, canF_eq f g [] (t.take _) (by rw [List.length_take]; omega) (by rw [List.length_take]; omega), canF_eq f g b (t.drop _) (by rw [List.length_drop]; omega) (by rw [List.length_drop]; omega)]
theorem canP_nil (b : List Pc) : canP b [] = [] := rfl
theorem canP_cons (b : List Pc) (x : Nd) (inner rest : List Nd) (hs : x.size = 1 + (inner.length : Int)) :
    canP b (x :: (inner ++ rest)) = (if x.kind = 1 then [.s 91] ++ styP x.sty ++ canP [] inner ++ [.s 93] else leafP x) ++ b ++ canP b rest := by
  unfold canP
  rw [List.length_cons, canF, show x.size.toNat - 1 = inner.length by omega, List.take_left' rfl, List.drop_left' rfl,
    canF_eq _ inner.length [] inner (by simp) (Nat.le_refl _), canF_eq _ rest.length b rest (by simp) (Nat.le_refl _)]
/-! ### tokens that pieces are -/
def tokN : List Pc → Nat
  | [] => 0
  | .b _ :: ps => tokN ps
  | _ :: ps => tokN ps + 1
theorem tokN_append : ∀ (a b : List Pc), tokN (a ++ b) = tokN a + tokN b
  | [], b => by simp [tokN]
  | .b _ :: a, b => by simp [tokN, tokN_append a b]
  | .s _ :: a, b => by simp [tokN, tokN_append a b]; omega
  | .n _ :: a, b => by simp [tokN, tokN_append a b]; omega
/-- the tokens from i on are those of the pieces. -/
def KAt (l : List Tok) : Nat → List Pc → Prop
  | _, [] => True
  | i, .b _ :: ps => KAt l i ps
  | i, .s c :: ps => (∃ t, l[i]? = some t ∧ t.kind = 1 ∧ t.sign = c) ∧ KAt l (i + 1) ps
  | i, .n z :: ps => (∃ t, l[i]? = some t ∧ t.kind = 2 ∧ t.n = (z : Int)) ∧ KAt l (i + 1) ps
theorem KAt_append (l : List Tok) : ∀ (a b : List Pc) (i : Nat), KAt l i (a ++ b) ↔ KAt l i a ∧ KAt l (i + tokN a) b
  | [], b, i => by simp [KAt, tokN]
  | .b _ :: a, b, i => by simp only [List.cons_append, KAt, tokN]; exact KAt_append l a b i
  | .s c :: a, b, i => by
    simp only [List.cons_append, KAt, tokN]
    rw [KAt_append l a b (i + 1), show i + 1 + tokN a = i + (tokN a + 1) by omega, and_assoc]
  | .n c :: a, b, i => by
    simp only [List.cons_append, KAt, tokN]
    rw [KAt_append l a b (i + 1), show i + 1 + tokN a = i + (tokN a + 1) by omega, and_assoc]
theorem KAt_toks : ∀ (ps : List Pc) (pre : List Tok) (k : Nat), KAt (pre ++ toksP' k ps) pre.length ps
  | [], _, _ => trivial
  | .b _ :: ps, pre, k => by simp only [KAt, toksP']; exact KAt_toks ps pre (k + 1)
  | .s c :: ps, pre, k => by
    simp only [KAt, toksP']
    refine ⟨⟨_, by rw [List.getElem?_append_right (Nat.le_refl _), Nat.sub_self]; rfl, rfl, rfl⟩, ?_⟩
    have := KAt_toks ps (pre ++ [⟨1, c, 0, k⟩]) (k + 1)
    rw [List.append_assoc, List.length_append] at this
    exact this
  | .n z :: ps, pre, k => by
    simp only [KAt, toksP']
    refine ⟨⟨_, by rw [List.getElem?_append_right (Nat.le_refl _), Nat.sub_self]; rfl, rfl, rfl⟩, ?_⟩
    have := KAt_toks ps (pre ++ [⟨2, 0, z, k⟩]) (k + (digitsL z).length)
    rw [List.append_assoc, List.length_append] at this
    exact this
theorem toks_len : ∀ (ps : List Pc) (k : Nat), (toksP' k ps).length = tokN ps
  | [], _ => rfl
  | .b _ :: ps, k => by simp only [toksP', tokN]; exact toks_len ps _
  | .s _ :: ps, k => by simp only [toksP', tokN, List.length_cons]; rw [toks_len ps]
  | .n _ :: ps, k => by simp only [toksP', tokN, List.length_cons]; rw [toks_len ps]
theorem sg_of {l : List Tok} {i : Nat} {c : Int} (h : ∃ t, l[i]? = some t ∧ t.kind = 1 ∧ t.sign = c) (d : Int) : sgB l i d = decide (c = d) := by
  obtain ⟨t, h1, h2, h3⟩ := h
  unfold sgB
  rw [h1]
  simp only [h2, h3]
  rw [Bool.eq_iff_iff]; simp
theorem nm_of {l : List Tok} {i : Nat} {z : Nat} (h : ∃ t, l[i]? = some t ∧ t.kind = 2 ∧ t.n = (z : Int)) : nAt l i = z ∧ (∀ lo hi : Int, lo ≤ z → (z : Int) ≤ hi → nmB l i lo hi = true) ∧ ∀ c, sgB l i c = false := by
  obtain ⟨t, h1, h2, h3⟩ := h
  refine ⟨by unfold nAt; rw [h1]; exact h3, fun lo hi a b => ?_, fun c => ?_⟩
  · unfold nmB; rw [h1]; simp [h2, h3, a, b]
  · unfold sgB; rw [h1]; simp [h2]
theorem nm_sg {l : List Tok} {i : Nat} {c : Int} (h : ∃ t, l[i]? = some t ∧ t.kind = 1 ∧ t.sign = c) (lo hi : Int) : nmB l i lo hi = false := by
  obtain ⟨t, h1, h2, h3⟩ := h
  unfold nmB; rw [h1]; simp [h2]
/-! ### attributes -/
theorem find_letter {l : List Tok} {i : Nat} {c : Int} (hc : c ∈ lettersB) (h : ∃ t, l[i]? = some t ∧ t.kind = 1 ∧ t.sign = c) {told : List Int} (hn : c ∉ told) : letterB l i told = c := by
  have hf : lettersB.find? (sgB l i) = some c := by
    rcases hq : lettersB.find? (sgB l i) with _ | d
    · have := List.find?_eq_none.1 hq c hc
      rw [sg_of h] at this
      simp at this
    · have := List.find?_some hq
      rw [sg_of h] at this
      simp at this
      rw [this]
  unfold letterB
  rw [hf]
  simp only [if_neg hn]
theorem no_letter {l : List Tok} {i : Nat} {told : List Int} (h : ∀ c ∈ lettersB, sgB l i c = false) : letterB l i told = 0 := by
  have hf : lettersB.find? (sgB l i) = none := List.find?_eq_none.2 (fun c hc => by rw [h c hc]; simp)
  unfold letterB
  rw [hf]
theorem attr_step {l : List Tok} {i : Nat} {acc : Sty} {c n p : Int} {told : List Int} {r : Res Sty} {ps : List Pc} (hc : c ∈ lettersB) (hn : c ∉ told) (h0 : 0 ≤ n) (hl : n ≠ p → (limitB c).1 ≤ n ∧ n ≤ (limitB c).2) (hw : n = p → withB acc c n = acc)
    (hK : KAt l i (attrP c n p ++ ps)) (hnext : ∀ told', (told' = told ∨ told' = told ++ [c]) → KAt l (i + tokN (attrP c n p)) ps → Attrs l (i + tokN (attrP c n p)) (withB acc c n) told' r) : Attrs l i acc told r := by
  by_cases h : n = p
  · have e : attrP c n p = [] := by unfold attrP; rw [if_pos h]
    rw [e] at hK hnext
    have := hnext told (.inl rfl) hK
    rw [hw h] at this
    exact this
  · have e : attrP c n p = [.s c, .n n.toNat] := by unfold attrP; rw [if_neg h]
    rw [e] at hK hnext
    have hK' := (KAt_append l _ _ i).1 hK
    obtain ⟨⟨k1, k2, _⟩, k3⟩ := hK'
    have hlet := find_letter hc k1 hn
    obtain ⟨g1, g2, _⟩ := nm_of k2
    have hz : ((n.toNat : Nat) : Int) = n := by omega
    rw [hz] at g1 g2
    have hl' := hl h
    have hc0 : c ≠ 0 := by
      intro e0
      subst e0
      simp [lettersB] at hc
    refine .step (by rw [hlet]; exact hc0) (by rw [hlet]; exact g2 _ _ hl'.1 hl'.2) ?_
    rw [hlet, g1]
    exact hnext _ (.inr rfl) k3
end Go.Proofs.YtechccoongilcaaDoor
