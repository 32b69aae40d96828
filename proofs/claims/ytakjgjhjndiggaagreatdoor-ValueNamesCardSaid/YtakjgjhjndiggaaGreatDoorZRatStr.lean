/-
  What package ratio reads out of a ratio's text: plain mathematics of lists of bytes.
-/
import Derived.Test.YtakjgjhjndiggaaGreatDoorZRatNum
import Derived.IntWalk
namespace Go.Proofs.YtakjgjhjndiggaaGreatDoor
open Go.RowKit
open RM
open IntWalk (wrap64_in wrap32_in)
set_option linter.unusedVariables false
set_option linter.unusedSimpArgs false

theorem index_none : ∀ (l : List UInt8), (47 : UInt8) ∉ l → Lib.index l [47] = -1
  | [], _ => rfl
  | b :: l, h => by
    have h1 : b ≠ 47 := fun e => h (by simp [e])
    have h2 : (47 : UInt8) ≠ b := fun e => h1 e.symm
    have h3 := index_none l (fun e => h (by simp [e]))
    simp [Lib.index, List.isPrefixOf, h2, h3]
theorem index_at : ∀ (l m : List UInt8), (47 : UInt8) ∉ l → Lib.index (l ++ 47 :: m) [47] = l.length
  | [], m, _ => by simp [Lib.index, List.isPrefixOf]
  | b :: l, m, h => by
    have h1 : b ≠ 47 := fun e => h (by simp [e])
    have h2 : (47 : UInt8) ≠ b := fun e => h1 e.symm
    have h3 := index_at l m (fun e => h (by simp [e]))
    have h4 : ((l.length : Int) == -1) = false := by rw [beq_eq_false_iff_ne]; omega
    simp [Lib.index, List.isPrefixOf, h2, h3]
theorem cut_none {l : List UInt8} (h : (47 : UInt8) ∉ l) : Lib.cut l [47] = (l, [], false) := by
  simp [Lib.cut, index_none l h]
theorem cut_at {l : List UInt8} (m : List UInt8) (h : (47 : UInt8) ∉ l) : Lib.cut (l ++ 47 :: m) [47] = (l, m, true) := by
  have h0 : (0 : Int) ≤ (l.length : Int) := by omega
  simp only [Lib.cut, index_at l m h, if_pos h0, Int.toNat_natCast, List.length_singleton]
  rw [List.take_left', List.drop_append]
  · simp
  · rfl

/-- A digit. -/
def isDig (c : UInt8) : Prop := 48 ≤ c.toNat ∧ c.toNat ≤ 57
theorem ofNat_dig {k : Nat} (h : k < 10) : (UInt8.ofNat (48 + k)).toNat = 48 + k := by
  rw [UInt8.toNat_ofNat']; omega
theorem dec_digits : ∀ u, ∀ c ∈ Lib.decDigits u, isDig c := by
  intro u
  induction u using Nat.strongRecOn with
  | _ u ih =>
    intro c hc
    unfold Lib.decDigits at hc
    split at hc
    · rw [List.mem_singleton] at hc; subst hc; unfold isDig; rw [ofNat_dig (by omega)]; omega
    · rw [List.mem_append, List.mem_singleton] at hc
      rcases hc with hc | hc
      · exact ih (u / 10) (by omega) c hc
      · subst hc; unfold isDig; rw [ofNat_dig (by omega)]; omega
/-- The number that a list of digits stands for, in front of which a number stands. -/
def valF (acc : Nat) (l : List UInt8) : Nat := l.foldl (fun a c => a * 10 + (c.toNat - 48)) acc
theorem valF_ge : ∀ (l : List UInt8) (acc : Nat), acc ≤ valF acc l
  | [], _ => Nat.le_refl _
  | c :: l, acc => Nat.le_trans (by omega) (valF_ge l (acc * 10 + (c.toNat - 48)))
theorem valF_dec : ∀ u, valF 0 (Lib.decDigits u) = u := by
  intro u
  induction u using Nat.strongRecOn with
  | _ u ih =>
    unfold Lib.decDigits
    split
    · simp only [valF, List.foldl_cons, List.foldl_nil]; rw [ofNat_dig (by omega)]; omega
    · have h := ih (u / 10) (by omega)
      unfold valF at h
      simp only [valF, List.foldl_append, h, List.foldl_cons, List.foldl_nil]
      rw [ofNat_dig (by omega)]; omega
theorem numF_val (l : List UInt8) (hl : ∀ c ∈ l, isDig c) : ∀ (b pos acc : Nat), pos ≤ l.length → l.length ≤ pos + b → valF acc (l.drop pos) ≤ 9223372036854775807 →
    numF ⟨l.toArray⟩ b pos acc = valF acc (l.drop pos) := by
  intro b
  induction b with
  | zero =>
    intro pos acc h1 h2 _
    rw [List.drop_of_length_le (by omega)]; rfl
  | succ b ih =>
    intro pos acc h1 h2 hv
    by_cases hp : pos < l.length
    · have hs : pos < (⟨l.toArray⟩ : ByteArray).size := by simpa [ByteArray.size] using hp
      have hc : (⟨l.toArray⟩ : ByteArray)[pos]'hs = l[pos] := by simp [ByteArray.getElem_eq_getElem_data]
      have hd := hl l[pos] (List.getElem_mem hp)
      have hdec : Utf8.decode ⟨l.toArray⟩ pos = (l[pos].toNat, 1) := by
        have := decode_ascii ⟨l.toArray⟩ pos hs (by rw [hc]; have := hd.2; omega)
        rw [this, hc]
      have hdrop : l.drop pos = l[pos] :: l.drop (pos + 1) := List.drop_eq_getElem_cons hp
      rw [hdrop] at hv ⊢
      have hv' : valF (acc * 10 + (l[pos].toNat - 48)) (l.drop (pos + 1)) ≤ 9223372036854775807 := hv
      have hge := valF_ge (l.drop (pos + 1)) (acc * 10 + (l[pos].toNat - 48))
      have e : digN (acc : Int) ((l[pos].toNat : Nat) : Int) = ((acc * 10 + (l[pos].toNat - 48) : Nat) : Int) := by
        have h3 := hd.1
        have h4 := hd.2
        unfold digN
        rw [wrap32_in _ (by omega), wrap64_in ((l[pos].toNat : Int) - 48) (by omega), wrap64_in ((acc : Int) * 10) (by omega), wrap64_in _ (by omega)]
        omega
      have step : numF ⟨l.toArray⟩ (b + 1) pos acc = numF ⟨l.toArray⟩ b (pos + 1) ((acc * 10 + (l[pos].toNat - 48) : Nat) : Int) := by
        simp only [numF, if_pos hs, hdec]
        rw [e]
      rw [step]
      exact ih (pos + 1) _ (by omega) (by omega) hv'
    · rw [List.drop_of_length_le (by omega)]
      rw [numF_end _ _ _ _ (by simpa [ByteArray.size] using hp)]; rfl
theorem numV_dec (u : Nat) (h : u ≤ 9223372036854775807) : numV ⟨(Lib.decDigits u).toArray⟩ = u := by
  have := numF_val (Lib.decDigits u) (dec_digits u) (Lib.decDigits u).length 0 0 (by omega) (by omega) (by rw [List.drop_zero, valF_dec]; exact h)
  rw [List.drop_zero, valF_dec] at this
  simpa [numV, ByteArray.size] using this

/-- What is read. -/
def looseN (s : ByteArray) : Int :=
  if Lib.hasPrefix (Lib.cut s.data.toList [47]).1 [45] = true then wrap64 (-numV ⟨(Lib.trimPrefix (Lib.cut s.data.toList [47]).1 [45]).toArray⟩) else numV ⟨(Lib.trimPrefix (Lib.cut s.data.toList [47]).1 [45]).toArray⟩
def looseD (s : ByteArray) : Int := if (Lib.cut s.data.toList [47]).2.2 = true then numV ⟨(Lib.cut s.data.toList [47]).2.1.toArray⟩ else 1

theorem no_slash {l : List UInt8} (h : ∀ c ∈ l, isDig c) : (47 : UInt8) ∉ l := fun e => by have := (h _ e).1; simp at this
theorem no_minus {l : List UInt8} (h : ∀ c ∈ l, isDig c) : Lib.hasPrefix l [45] = false := by
  cases l with
  | nil => rfl
  | cons c l =>
    have h1 := (h c (by simp)).1
    have : (45 : UInt8) ≠ c := fun e => by subst e; simp at h1
    simp [Lib.hasPrefix, List.isPrefixOf, this]
theorem itoa_slash (n : Int) : (47 : UInt8) ∉ Lib.itoa n := by
  unfold Lib.itoa
  split
  · have := no_slash (dec_digits n.natAbs)
    simpa using this
  · exact no_slash (dec_digits _)
theorem text_cut (n d : Int) : Lib.cut (textB n d).data.toList [47] = if d = 1 then (Lib.itoa n, [], false) else (Lib.itoa n, Lib.itoa d, true) := by
  show Lib.cut (textL n d) [47] = _
  unfold textL
  split
  · exact cut_none (itoa_slash n)
  · exact cut_at _ (itoa_slash n)
theorem read_itoa {n : Int} (h1 : -9223372036854775807 ≤ n) (h2 : n ≤ 9223372036854775807) :
    (if Lib.hasPrefix (Lib.itoa n) [45] = true then wrap64 (-numV ⟨(Lib.trimPrefix (Lib.itoa n) [45]).toArray⟩) else numV ⟨(Lib.trimPrefix (Lib.itoa n) [45]).toArray⟩) = n := by
  by_cases hn : n < 0
  · have e : Lib.itoa n = 45 :: Lib.decDigits n.natAbs := by unfold Lib.itoa; rw [if_pos hn]
    have hp : Lib.hasPrefix (Lib.itoa n) [45] = true := by rw [e]; simp [Lib.hasPrefix, List.isPrefixOf]
    rw [if_pos hp, Lib.trimPrefix, if_pos hp, e]
    simp only [List.length_singleton, List.drop_succ_cons, List.drop_zero]
    rw [numV_dec _ (by omega), wrap64_in _ (by omega)]; omega
  · have e : Lib.itoa n = Lib.decDigits n.toNat := by unfold Lib.itoa; rw [if_neg hn]
    have hp : Lib.hasPrefix (Lib.itoa n) [45] = false := by rw [e]; exact no_minus (dec_digits _)
    have hp' : ¬ Lib.hasPrefix (Lib.itoa n) [45] = true := by rw [hp]; decide
    rw [if_neg hp', Lib.trimPrefix, if_neg hp', e, numV_dec _ (by omega)]; omega
/-- A valid ratio's text is read as the ratio. -/
theorem loose_text {n d : Int} (hv : vld n d = true) : looseN (textB n d) = n ∧ looseD (textB n d) = d := by
  obtain ⟨h1, h2, h3, h4, _⟩ := vld_iff.1 hv
  constructor
  · have e : (Lib.cut (textB n d).data.toList [47]).1 = Lib.itoa n := by rw [text_cut]; split <;> rfl
    unfold looseN
    rw [e]; exact read_itoa (by omega) (by omega)
  · unfold looseD
    rw [text_cut]
    by_cases hd : d = 1
    · simp [hd]
    · have e : Lib.itoa d = Lib.decDigits d.toNat := by unfold Lib.itoa; rw [if_neg (by omega)]
      simp only [if_neg hd, if_true, e]
      rw [numV_dec _ (by omega)]; omega
end Go.Proofs.YtakjgjhjndiggaaGreatDoor
