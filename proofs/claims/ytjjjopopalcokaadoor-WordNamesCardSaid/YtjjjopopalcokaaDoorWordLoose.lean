/-
  What a loose reading makes of a string, and that it reads the text of a valid word as the word. No program in sight.
-/
import Derived.Test.YtjjjopopalcokaaDoorWordRead
import Derived.Lib.AtoiAll
import Derived.Lib.IndexLaws
import Derived.Lib.IndexBytes
import Derived.Lib.CutLaws
import Derived.Lib.CountLaws
import Derived.Lib.Split
import Derived.Lib.Join
namespace Go.Proofs.YtjjjopopalcokaaDoor
namespace WM
set_option linter.unusedVariables false
set_option linter.unusedSimpArgs false

/-- The pieces between commas. -/
def pcs : Bs → List Bs
  | [] => [[]]
  | c :: t => if c = 44 then [] :: pcs t else match pcs t with
    | p :: ps => (c :: p) :: ps
    | [] => [[c]]
theorem pcs_ne (s : Bs) : pcs s ≠ [] := by
  cases s with
  | nil => simp [pcs]
  | cons c t =>
    unfold pcs; split
    · simp
    · split <;> simp
theorem pcs_no {s : Bs} (h : ∀ c ∈ s, c ≠ 44) : pcs s = [s] := by
  induction s with
  | nil => rfl
  | cons c t ih =>
    have := ih fun x hx => h x (by simp [hx])
    simp [pcs, h c (by simp), this]
theorem pcs_app {p r : Bs} (h : ∀ c ∈ p, c ≠ 44) : pcs (p ++ 44 :: r) = p :: pcs r := by
  induction p with
  | nil => simp [pcs]
  | cons c t ih =>
    have := ih fun x hx => h x (by simp [hx])
    simp [pcs, h c (by simp), this]
theorem pcs_len (s : Bs) : (pcs s).length ≤ s.length + 1 := by
  induction s with
  | nil => simp [pcs]
  | cons c t ih =>
    unfold pcs; split
    · simp; omega
    · split
      · rename_i p ps e; rw [e] at ih; simp at ih ⊢; omega
      · simp
theorem idx_app {p r : Bs} {c : UInt8} (h : ∀ x ∈ p, x ≠ c) : Lib.index (p ++ c :: r) [c] = (p.length : Int) := by
  rw [Lib.index_one]
  induction p with
  | nil => simp [Lib.indexByte]
  | cons a t ih =>
    have h1 : (a == c) = false := beq_eq_false_iff_ne.2 (h a (by simp))
    have h2 := ih fun x hx => h x (by simp [hx])
    rw [List.cons_append, Lib.indexByte, h1, h2]
    have h3 : ((t.length : Int) == -1) = false := by rw [beq_eq_false_iff_ne]; omega
    simp [h3]
theorem idx_no {p : Bs} {c : UInt8} (h : ∀ x ∈ p, x ≠ c) : Lib.index p [c] = -1 := by
  rw [Lib.index_one]
  induction p with
  | nil => rfl
  | cons a t ih =>
    have h1 : (a == c) = false := beq_eq_false_iff_ne.2 (h a (by simp))
    have h2 := ih fun x hx => h x (by simp [hx])
    simp [Lib.indexByte, h1, h2]
theorem cut_app {p r : Bs} {c : UInt8} (h : ∀ x ∈ p, x ≠ c) : Lib.cut (p ++ c :: r) [c] = (p, r, true) := by
  unfold Lib.cut
  rw [idx_app h, if_pos (by omega)]
  simp
theorem cut_rest (s : Bs) (c : UInt8) : (Lib.cut s [c]).2.1.length ≤ s.length := by
  unfold Lib.cut; split
  · simp
  · simp
theorem cut_len (s : Bs) (c : UInt8) : (Lib.cut s [c]).1.length ≤ s.length := by
  unfold Lib.cut; split
  · simp; omega
  · simp
/-- A number out of a piece, whatever it holds. -/
def atoiV (l : Bs) : Int := match Lib.atoiAll l with
  | .ok v => v
  | .syntax => 0
  | .range => Lib.atoiSat l
def looseA (s : Bs) : List Int := (pcs s).map atoiV
/-- Names, with args where a parenthesis follows. -/
def looseM : Bs → List Md
  | [] => []
  | c :: t => if t.head? = some 40 then ⟨c, looseA (Lib.cut t.tail [41]).1⟩ :: looseM (Lib.cut t.tail [41]).2.1 else ⟨c, []⟩ :: looseM t
termination_by s => s.length
decreasing_by
  · have h1 := cut_rest t.tail 41
    have h2 : t.tail.length ≤ t.length := by simp
    simp only [List.length_cons]; omega
  · simp
theorem looseM_nil : looseM [] = [] := by rw [looseM]
theorem looseM_arg {c : UInt8} {t : Bs} (h : t.head? = some 40) : looseM (c :: t) = ⟨c, looseA (Lib.cut t.tail [41]).1⟩ :: looseM (Lib.cut t.tail [41]).2.1 := by rw [looseM, if_pos h]
theorem looseM_bare {c : UInt8} {t : Bs} (h : t.head? ≠ some 40) : looseM (c :: t) = ⟨c, []⟩ :: looseM t := by rw [looseM, if_neg h]
theorem itoa_bytes (n : Int) : ∀ c ∈ Lib.itoa n, c = 45 ∨ digP c = true := by
  intro c hc
  unfold Lib.itoa at hc
  split at hc
  · rcases List.mem_cons.1 hc with h | h
    · exact .inl h
    · exact .inr (dec_digits _ c h)
  · exact .inr (dec_digits _ c hc)
theorem dig_ne {c : UInt8} (h : c = 45 ∨ digP c = true) : c ≠ 44 ∧ c ≠ 41 ∧ c ≠ 40 := by
  rcases h with rfl | h
  · decide
  · have := digP_iff.1 h
    refine ⟨?_, ?_, ?_⟩ <;> (intro e; rw [e] at this; simp at this)
theorem argsT_bytes (l : List Int) : ∀ c ∈ argsT l, c ≠ 41 := by
  induction l with
  | nil => simp [argsT]
  | cons x l ih =>
    intro c hc
    simp only [argsT, List.mem_cons, List.mem_append] at hc
    rcases hc with rfl | h | h
    · decide
    · exact (dig_ne (itoa_bytes x c h)).2.1
    · exact ih c h
theorem pcs_args : ∀ (l : List Int) (x : Int), pcs (Lib.itoa x ++ argsT l) = Lib.itoa x :: l.map Lib.itoa
  | [], x => by
    rw [argsT, List.append_nil, pcs_no fun c hc => (dig_ne (itoa_bytes x c hc)).1]; rfl
  | y :: l, x => by
    rw [argsT, pcs_app fun c hc => (dig_ne (itoa_bytes x c hc)).1, pcs_args l y]; rfl
theorem valF_ge : ∀ (l : Bs) (acc : Nat), acc ≤ valF acc l
  | [], acc => Nat.le_refl _
  | c :: l, acc => Nat.le_trans (by omega) (valF_ge l (acc * 10 + (c.toNat - 48)))
theorem parse_dig : ∀ (l : Bs) (acc : Nat), (∀ c ∈ l, digP c = true) → valF acc l ≤ 1000000000 → Lib.parseUint10 acc l = .ok (valF acc l)
  | [], acc, _, _ => rfl
  | c :: l, acc, hd, hv => by
    have h1 := digP_iff.1 (hd c (by simp))
    have h2 : acc * 10 + (c.toNat - 48) ≤ 1000000000 := Nat.le_trans (valF_ge l _) hv
    rw [Lib.parseUint10, if_pos h1, if_neg (by omega), if_neg (by omega)]
    exact parse_dig l _ (fun x hx => hd x (by simp [hx])) hv
theorem atoiV_itoa {n : Int} (h : -1000000000 ≤ n ∧ n ≤ 1000000000) : atoiV (Lib.itoa n) = n := by
  have hp := parse_dig (Lib.decDigits n.natAbs) 0 (dec_digits _) (by rw [valF_dec]; omega)
  rw [valF_dec] at hp
  have hm : Lib.parseMag (Lib.decDigits n.natAbs) = .ok n.natAbs := by unfold Lib.parseMag; rw [if_neg (dec_ne _)]; exact hp
  unfold atoiV
  have key : Lib.atoiAll (Lib.itoa n) = .ok n := by
    by_cases hn : n < 0
    · have e : Lib.itoa n = 45 :: Lib.decDigits n.natAbs := by unfold Lib.itoa; rw [if_pos hn]
      rw [e]
      unfold Lib.atoiAll
      have h45 : (45 : UInt8).toNat = 45 := rfl
      simp only [h45, or_true, if_true, hm]
      rw [if_neg (by simp), if_neg (by simp; omega)]
      congr 1; omega
    · have e : Lib.itoa n = Lib.decDigits n.natAbs := by unfold Lib.itoa; rw [if_neg hn, show n.toNat = n.natAbs by omega]
      rw [e]
      cases hd : Lib.decDigits n.natAbs with
      | nil => exact absurd hd (dec_ne _)
      | cons c l =>
        have hc := digP_iff.1 (dec_digits n.natAbs c (by rw [hd]; simp))
        rw [hd] at hm
        unfold Lib.atoiAll
        have h1 : ¬ (c.toNat = 43 ∨ c.toNat = 45) := by omega
        have h2 : ¬ c.toNat = 45 := by omega
        have h0 : ¬ c.toNat = 43 := by omega
        simp only [h0, h2, or_self, if_false]
        rw [hm]
        have h3 : ¬ (9223372036854775808 ≤ n.natAbs) := by omega
        simp [h3]; omega
  rw [key]
theorem looseA_args {a : List Int} {x : Int} (h : ∀ y ∈ x :: a, -1000000000 ≤ y ∧ y ≤ 1000000000) : looseA (Lib.itoa x ++ argsT a) = x :: a := by
  unfold looseA
  rw [pcs_args, List.map_cons, atoiV_itoa (h x (by simp)), List.map_map]
  congr 1
  have : a.map (atoiV ∘ Lib.itoa) = a.map id := List.map_congr_left fun y hy => atoiV_itoa (h y (by simp [hy]))
  rw [this, List.map_id]
theorem loose_txt : ∀ (l : List Md), (∀ m ∈ l, fineB m = true) → looseM (txt l) = l
  | [], _ => looseM_nil
  | m :: l, h => by
    have ih := loose_txt l fun x hx => h x (by simp [hx])
    have hs := stop_txt (l := l) fun x hx => h x (by simp [hx])
    have hm := h m (by simp)
    have hrg : ∀ x ∈ m.a, -1000000000 ≤ x ∧ x ≤ 1000000000 := by
      have : rngB m.a = true := by
        unfold fineB at hm; simp only [Bool.and_eq_true] at hm; exact hm.2
      exact rngB_iff.1 this
    obtain ⟨c, a⟩ := m
    rw [show txt (⟨c, a⟩ :: l) = modT ⟨c, a⟩ ++ txt l from rfl]
    cases a with
    | nil =>
      show looseM (c :: txt l) = _
      rw [looseM_bare, ih]
      intro e
      cases ht : txt l with
      | nil => rw [ht] at e; simp at e
      | cons d t =>
        rw [ht] at e
        simp at e
        exact (hs d t ht).1 e
    | cons x a =>
      have e1 : modT ⟨c, x :: a⟩ ++ txt l = c :: 40 :: ((Lib.itoa x ++ argsT a) ++ 41 :: txt l) := by simp [modT]
      rw [e1, looseM_arg rfl]
      have hno : ∀ y ∈ Lib.itoa x ++ argsT a, y ≠ 41 := by
        intro y hy
        rcases List.mem_append.1 hy with h | h
        · exact (dig_ne (itoa_bytes x y h)).2.1
        · exact argsT_bytes a y h
      rw [List.tail_cons, cut_app hno]
      show (⟨c, looseA (Lib.itoa x ++ argsT a)⟩ : Md) :: looseM (txt l) = _
      rw [ih, looseA_args hrg]
theorem loose_prs {s : Bs} {w : List Md} (h : prs s = some w) : looseM s = w := by
  obtain ⟨h1, rfl⟩ := prs_iff.1 h
  exact loose_txt w (by have := (chk_zero.1 h1).2.1; simpa using this)
theorem prs_no {s : Bs} (h : prs s = none) : ¬ (chk (looseM s) = 0 ∧ txt (looseM s) = s) := fun e => by
  rw [prs_iff.2 e] at h; simp at h
theorem join_args (x : Int) (l : List Int) : Lib.join ((x :: l).map Lib.itoa) [44] = Lib.itoa x ++ argsT l := by
  rw [List.map_cons, Lib.join_cons]
  congr 1
  unfold Lib.joinTail
  induction l with
  | nil => rfl
  | cons y l ih =>
    rw [List.map_cons, List.map_cons, List.flatten_cons, ih]
    simp [argsT]
theorem itoa_len (n : Int) (h : -1000000000 ≤ n ∧ n ≤ 1000000000) : (Lib.itoa n).length ≤ 11 := by
  unfold Lib.itoa
  have := dec_length (u := n.natAbs) (by omega)
  have := dec_length (u := n.toNat) (by omega)
  split
  · simp; omega
  · omega
theorem argsT_len (l : List Int) (h : ∀ x ∈ l, -1000000000 ≤ x ∧ x ≤ 1000000000) : (argsT l).length ≤ 12 * l.length := by
  induction l with
  | nil => simp [argsT]
  | cons x l ih =>
    have := itoa_len x (h x (by simp))
    have := ih fun y hy => h y (by simp [hy])
    simp [argsT]; omega
theorem modT_len {m : Md} (h : fineB m = true) : (modT m).length ≤ 60 := by
  unfold fineB at h
  simp only [Bool.and_eq_true, decide_eq_true_eq] at h
  obtain ⟨⟨⟨h1, h2⟩, h3⟩, h4⟩ := h
  have hr := rngB_iff.1 h4
  obtain ⟨c, a⟩ := m
  cases a with
  | nil => simp [modT]
  | cons x l =>
    have := itoa_len x (hr x (by simp))
    have := argsT_len l fun y hy => hr y (by simp [hy])
    simp at h2
    simp [modT]; omega
theorem txt_len (l : List Md) (h : ∀ m ∈ l, fineB m = true) : (txt l).length ≤ 60 * l.length := by
  induction l with
  | nil => simp [txt]
  | cons m l ih =>
    have h1 := modT_len (h m (by simp))
    have h2 := ih fun x hx => h x (by simp [hx])
    rw [show txt (m :: l) = modT m ++ txt l from rfl, List.length_append, List.length_cons]; omega
/-- What strings.Split hands back at a comma. -/
theorem splitB_pcs (sep : ByteArray) (hsep : sep.data.toList = [44]) : ∀ (n : Nat) (s : ByteArray), s.size ≤ n → (Lib.splitB sep 0 (Lib.countB s sep) s).map (·.data.toList) = pcs s.data.toList := by
  have hs1 : sep.size = 1 := by
    have := congrArg List.length hsep
    simpa using this
  intro n
  induction n with
  | zero =>
    intro s hs
    have h0 : s.data.toList = [] := by
      apply List.length_eq_zero_iff.1
      simpa using hs
    have hi : Lib.indexB s sep = -1 := by
      unfold Lib.indexB; rw [hsep, h0]; rfl
    rw [Lib.countB_miss s sep hi, Lib.splitB_zero, h0]
    simp [pcs, h0]
  | succ n ih =>
    intro s hs
    rcases Lib.indexB_cases s sep with hi | ⟨i, hi, hle⟩
    · rw [Lib.countB_miss s sep hi, Lib.splitB_zero, List.map_cons, List.map_nil]
      have hno : ∀ c ∈ s.data.toList, c ≠ 44 := by
        unfold Lib.indexB at hi
        rw [hsep, Lib.index_one] at hi
        intro c hc e
        subst e
        obtain ⟨k, hk, e⟩ := List.mem_iff_getElem.1 hc
        have := Lib.indexByte_none hi k
        rw [List.getElem?_eq_getElem hk, e] at this
        exact this rfl
      rw [pcs_no hno]
    · rw [Lib.countB_hit s sep i (by omega) hi, Nat.add_comm, Lib.splitB_hit sep 0 _ s i hi, List.map_cons, ih _ (by rw [ByteArray.size_extract]; omega)]
      have h1 : Lib.indexByte s.data.toList 44 = (i : Int) := by
        unfold Lib.indexB at hi
        rwa [hsep, Lib.index_one] at hi
      obtain ⟨h2, h3⟩ := Lib.indexByte_some h1
      have e1 : (s.extract 0 (i + 0)).data.toList = s.data.toList.take i := by
        rw [ByteArray.data_extract, Array.toList_extract]; simp
      have e2 : (s.extract (i + sep.size) s.size).data.toList = s.data.toList.drop (i + 1) := by
        rw [ByteArray.data_extract, Array.toList_extract, hs1]
        rw [List.extract_eq_take_drop]
        apply List.take_of_length_le
        simp
      have hil : i < s.data.toList.length := by
        rcases Nat.lt_or_ge i s.data.toList.length with h | h
        · exact h
        · rw [List.getElem?_eq_none h] at h2; simp at h2
      have e3 : s.data.toList = s.data.toList.take i ++ 44 :: s.data.toList.drop (i + 1) := by
        have h4 : s.data.toList[i] = 44 := by rw [List.getElem?_eq_getElem hil] at h2; exact Option.some.inj h2
        rw [← h4, List.getElem_cons_drop, List.take_append_drop]
      have hno : ∀ c ∈ s.data.toList.take i, c ≠ 44 := by
        intro c hc e
        subst e
        obtain ⟨k, hk, e⟩ := List.mem_iff_getElem.1 hc
        rw [List.length_take] at hk
        have := h3 k (by omega)
        rw [List.getElem_take] at e
        rw [List.getElem?_eq_getElem (by omega), e] at this
        exact this rfl
      rw [e1, e2]
      conv => rhs; rw [e3]
      rw [pcs_app hno]
end WM
end Go.Proofs.YtjjjopopalcokaaDoor
