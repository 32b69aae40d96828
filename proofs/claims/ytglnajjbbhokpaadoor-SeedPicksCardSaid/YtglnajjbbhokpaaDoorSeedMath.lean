/-
  The mathematics of seeds, draws, weights and orders, in natural numbers and lists alone. No program in sight.
-/
namespace Go.Proofs.YtglnajjbbhokpaaDoor
namespace SM
set_option linter.unusedVariables false
set_option linter.unusedSimpArgs false

abbrev Bs := List UInt8

/-! ### The number of a seed and a path -/
def M64 : Nat := 18446744073709551616
def begN (s : Int) : Nat := (s % 18446744073709551616).toNat ^^^ 11400714819323198485
def stepN (h : Nat) (b : UInt8) : Nat := (h ^^^ b.toNat) * 1099511628211 % 18446744073709551616
def alongN (h : Nat) (l : Bs) : Nat := l.foldl stepN h
def mixA (h : Nat) : Nat := (h ^^^ h / 1073741824) * 13787848793156543929 % 18446744073709551616
def mixB (h : Nat) : Nat := (h ^^^ h / 134217728) * 10723151780598845931 % 18446744073709551616
def mixC (h : Nat) : Nat := h ^^^ h / 2147483648
def numN (h : Nat) : Nat := mixC (mixB (mixA h))
def ofN (s : Int) (l : Bs) : Nat := numN (alongN (begN s) l)

theorem xor_lt {a b : Nat} (ha : a < 18446744073709551616) (hb : b < 18446744073709551616) : a ^^^ b < 18446744073709551616 := Nat.xor_lt_two_pow (n := 64) ha hb
theorem begN_lt (s : Int) : begN s < 18446744073709551616 := xor_lt (by omega) (by decide)
theorem stepN_lt (h : Nat) (b : UInt8) : stepN h b < 18446744073709551616 := Nat.mod_lt _ (by decide)
theorem alongN_lt {h : Nat} (hh : h < 18446744073709551616) (l : Bs) : alongN h l < 18446744073709551616 := by
  induction l generalizing h with
  | nil => exact hh
  | cons b l ih => exact ih (stepN_lt h b)
theorem mixA_lt (h : Nat) : mixA h < 18446744073709551616 := Nat.mod_lt _ (by decide)
theorem mixB_lt (h : Nat) : mixB h < 18446744073709551616 := Nat.mod_lt _ (by decide)
theorem mixC_lt {h : Nat} (hh : h < 18446744073709551616) : mixC h < 18446744073709551616 := xor_lt hh (Nat.lt_of_le_of_lt (Nat.div_le_self _ _) hh)
theorem numN_lt (h : Nat) : numN h < 18446744073709551616 := mixC_lt (mixB_lt _)
theorem ofN_lt (s : Int) (l : Bs) : ofN s l < 18446744073709551616 := numN_lt _
theorem alongN_app (h : Nat) (a b : Bs) : alongN h (a ++ b) = alongN (alongN h a) b := List.foldl_append
theorem alongN_snoc (h : Nat) (a : Bs) (b : UInt8) : alongN h (a ++ [b]) = stepN (alongN h a) b := by
  unfold alongN; rw [List.foldl_append, List.foldl_cons, List.foldl_nil]

/-! Each step can be undone. -/
theorem shift_inj {k : Nat} (hk : 0 < k) {x y : Nat} (h : x ^^^ x / 2 ^ k = y ^^^ y / 2 ^ k) : x = y := by
  have h1 : (x ^^^ y) / 2 ^ k = x / 2 ^ k ^^^ y / 2 ^ k := by
    rw [← Nat.shiftRight_eq_div_pow, ← Nat.shiftRight_eq_div_pow, ← Nat.shiftRight_eq_div_pow, Nat.shiftRight_xor_distrib]
  have h2 : x ^^^ y = (x ^^^ y) / 2 ^ k := by
    rw [h1]
    have h3 : (x ^^^ x / 2 ^ k) ^^^ (y ^^^ y / 2 ^ k) = 0 := by rw [h, Nat.xor_self]
    have h4 : (x ^^^ y) ^^^ (x / 2 ^ k ^^^ y / 2 ^ k) = 0 := by
      rw [← h3]; ac_rfl
    have h5 := congrArg (· ^^^ (x / 2 ^ k ^^^ y / 2 ^ k)) h4
    simpa [Nat.xor_assoc] using h5
  have h6 : x ^^^ y = 0 := by
    rcases Nat.eq_zero_or_pos (x ^^^ y) with h0 | h0
    · exact h0
    · have : 1 < 2 ^ k := Nat.one_lt_two_pow (by omega)
      have := Nat.div_lt_self h0 this
      omega
  have h7 := congrArg (· ^^^ y) h6
  simpa [Nat.xor_assoc] using h7
theorem mul_inj {c d m x y : Nat} (hcd : c * d % m = 1) (hx : x < m) (hy : y < m) (h : x * c % m = y * c % m) : x = y := by
  have e : ∀ z, z < m → z * c % m * d % m = z := by
    intro z hz
    have hm1 : 1 < m := by
      rcases Nat.lt_or_ge 1 m with h1 | h1
      · exact h1
      · have : m = 0 ∨ m = 1 := by omega
        rcases this with rfl | rfl
        · omega
        · simp [Nat.mod_one] at hcd
    rw [Nat.mod_mul_mod, Nat.mul_assoc, Nat.mul_mod, hcd, Nat.mul_one, Nat.mod_mod, Nat.mod_eq_of_lt hz]
  rw [← e x hx, h, e y hy]
theorem mixC_inj {x y : Nat} (h : mixC x = mixC y) : x = y := shift_inj (k := 31) (by decide) h
theorem mixB_inj {x y : Nat} (hx : x < 18446744073709551616) (hy : y < 18446744073709551616) (h : mixB x = mixB y) : x = y :=
  shift_inj (k := 27) (by decide) (mul_inj (d := 3573116690164977347) (by decide) (xor_lt hx (Nat.lt_of_le_of_lt (Nat.div_le_self _ _) hx)) (xor_lt hy (Nat.lt_of_le_of_lt (Nat.div_le_self _ _) hy)) h)
theorem mixA_inj {x y : Nat} (hx : x < 18446744073709551616) (hy : y < 18446744073709551616) (h : mixA x = mixA y) : x = y :=
  shift_inj (k := 30) (by decide) (mul_inj (d := 10871156337175269513) (by decide) (xor_lt hx (Nat.lt_of_le_of_lt (Nat.div_le_self _ _) hx)) (xor_lt hy (Nat.lt_of_le_of_lt (Nat.div_le_self _ _) hy)) h)
theorem numN_inj {x y : Nat} (hx : x < 18446744073709551616) (hy : y < 18446744073709551616) (h : numN x = numN y) : x = y :=
  mixA_inj hx hy (mixB_inj (mixA_lt _) (mixA_lt _) (mixC_inj h))
theorem xor_cancel {x y b : Nat} (h : x ^^^ b = y ^^^ b) : x = y := by
  have := congrArg (· ^^^ b) h
  simpa [Nat.xor_assoc] using this
theorem byte_lt64 (b : UInt8) : b.toNat < 18446744073709551616 := Nat.lt_of_lt_of_le b.toNat_lt (by decide)
theorem stepN_inj {x y : Nat} (hx : x < 18446744073709551616) (hy : y < 18446744073709551616) {a b : UInt8} (h : stepN x a = stepN y b) : x ^^^ a.toNat = y ^^^ b.toNat :=
  mul_inj (d := 14886173955864302971) (by decide) (xor_lt hx (byte_lt64 _)) (xor_lt hy (byte_lt64 _)) h
theorem alongN_inj {x y : Nat} (hx : x < 18446744073709551616) (hy : y < 18446744073709551616) {l : Bs} (h : alongN x l = alongN y l) : x = y := by
  induction l generalizing x y with
  | nil => exact h
  | cons b l ih => exact xor_cancel (stepN_inj hx hy (ih (stepN_lt x b) (stepN_lt y b) h))
theorem begN_inj {s t : Int} (hs : -9223372036854775808 ≤ s ∧ s ≤ 9223372036854775807) (ht : -9223372036854775808 ≤ t ∧ t ≤ 9223372036854775807) (h : begN s = begN t) : s = t := by
  have := xor_cancel h
  omega
/-- Different seeds have different numbers for the same path. -/
theorem ofN_seed {s t : Int} (hs : -9223372036854775808 ≤ s ∧ s ≤ 9223372036854775807) (ht : -9223372036854775808 ≤ t ∧ t ≤ 9223372036854775807) (l : Bs) : ofN s l = ofN t l ↔ s = t := by
  constructor
  · intro h
    exact begN_inj hs ht (alongN_inj (begN_lt s) (begN_lt t) (numN_inj (alongN_lt (begN_lt s) l) (alongN_lt (begN_lt t) l) h))
  · intro h; rw [h]
/-- Paths that differ in one byte have different numbers. -/
theorem ofN_byte (s : Int) (x : Bs) (a b : UInt8) (y : Bs) : ofN s (x ++ a :: y) = ofN s (x ++ b :: y) ↔ a = b := by
  constructor
  · intro h
    have h1 := numN_inj (alongN_lt (begN_lt s) _) (alongN_lt (begN_lt s) _) h
    rw [alongN_app, alongN_app] at h1
    have h2 : alongN (stepN (alongN (begN s) x) a) y = alongN (stepN (alongN (begN s) x) b) y := h1
    have h3 := alongN_inj (stepN_lt _ _) (stepN_lt _ _) h2
    have h4 := stepN_inj (alongN_lt (begN_lt s) x) (alongN_lt (begN_lt s) x) h3
    rw [Nat.xor_comm, Nat.xor_comm (alongN (begN s) x) b.toNat] at h4
    exact UInt8.toNat_inj.1 (xor_cancel h4)
  · intro h; rw [h]

/-! ### Weights -/
def sumI (l : List Int) : Int := l.foldr (· + ·) 0
theorem sumI_cons (a : Int) (l : List Int) : sumI (a :: l) = a + sumI l := rfl
theorem sumI_nil : sumI [] = 0 := rfl
theorem sumI_app (a b : List Int) : sumI (a ++ b) = sumI a + sumI b := by
  induction a with
  | nil => simp [sumI_nil]
  | cons x a ih => rw [List.cons_append, sumI_cons, sumI_cons, ih]; omega
theorem sumI_snoc (a : List Int) (x : Int) : sumI (a ++ [x]) = sumI a + x := by rw [sumI_app, sumI_cons, sumI_nil]; omega
def allB (l : List Int) : Bool := l.all (fun x => decide (0 ≤ x))
theorem allB_iff {l : List Int} : allB l = true ↔ ∀ x ∈ l, 0 ≤ x := by simp [allB]
theorem sumI_nonneg {l : List Int} (h : allB l = true) : 0 ≤ sumI l := by
  induction l with
  | nil => exact Int.le_refl _
  | cons a l ih =>
    have h1 := allB_iff.1 h a (by simp)
    have h2 := ih (allB_iff.2 fun x hx => allB_iff.1 h x (by simp [hx]))
    rw [sumI_cons]; omega
theorem allB_take {l : List Int} (h : allB l = true) (k : Nat) : allB (l.take k) = true := allB_iff.2 fun x hx => allB_iff.1 h x (List.mem_of_mem_take hx)
theorem allB_drop {l : List Int} (h : allB l = true) (k : Nat) : allB (l.drop k) = true := allB_iff.2 fun x hx => allB_iff.1 h x (List.mem_of_mem_drop hx)
theorem sumI_take {l : List Int} (h : allB l = true) (k : Nat) : sumI (l.take k) ≤ sumI l := by
  have := sumI_app (l.take k) (l.drop k)
  rw [List.take_append_drop] at this
  have := sumI_nonneg (allB_drop h k)
  omega
theorem sumI_take_succ {l : List Int} {k : Nat} (h : k < l.length) : sumI (l.take (k + 1)) = sumI (l.take k) + l[k] := by
  rw [List.take_add_one, List.getElem?_eq_getElem h]; exact sumI_snoc _ _
theorem sumI_few {l : List Int} {c : Int} (hc : 0 ≤ c) (h : ∀ x ∈ l, x ≤ c) : sumI l ≤ c * l.length := by
  induction l with
  | nil => simp [sumI_nil]
  | cons a l ih =>
    have h1 := h a (by simp)
    have h2 := ih fun x hx => h x (by simp [hx])
    rw [sumI_cons, List.length_cons]
    have : c * ((l.length + 1 : Nat) : Int) = c * l.length + c := by rw [Int.natCast_add, Int.mul_add]; simp
    omega

/-- A list of weights. -/
def wOk (l : List Int) : Bool := decide (l.length ≤ 200) && allB l && decide (1 ≤ sumI l) && decide (sumI l ≤ 1000000000)
theorem wOk_iff {l : List Int} : wOk l = true ↔ l.length ≤ 200 ∧ allB l = true ∧ 1 ≤ sumI l ∧ sumI l ≤ 1000000000 := by
  simp [wOk, and_assoc]
/-- The reference's sum: 0 where the list is not one of weights. -/
def sumN (l : List Int) : Int := if wOk l = true then sumI l else 0
theorem sumN_pos {l : List Int} : 1 ≤ sumN l ↔ wOk l = true := by
  unfold sumN; split
  · rename_i h; exact ⟨fun _ => h, fun _ => (wOk_iff.1 h).2.2.1⟩
  · rename_i h; exact ⟨fun h' => by omega, fun h' => absurd h' h⟩
theorem sumN_eq {l : List Int} (h : wOk l = true) : sumN l = sumI l := by rw [sumN, if_pos h]
theorem sumN_not {l : List Int} (h : wOk l = false) : sumN l = 0 := by rw [sumN, if_neg (by rw [h]; simp)]
theorem wOk_len {l : List Int} (h : 200 < l.length) : wOk l = false := by
  cases hw : wOk l
  · rfl
  · have := (wOk_iff.1 hw).1; omega
theorem wOk_neg {l : List Int} {k : Nat} (h : k < l.length) (hn : l[k] < 0) : wOk l = false := by
  cases hw : wOk l
  · rfl
  · have := allB_iff.1 (wOk_iff.1 hw).2.1 l[k] (List.getElem_mem h); omega
theorem wOk_big {l : List Int} {k : Nat} (hn : 1000000000 < sumI (l.take k)) : wOk l = false := by
  cases hw : wOk l
  · rfl
  · have h := wOk_iff.1 hw
    have := sumI_take h.2.1 k; omega
theorem wOk_zero {l : List Int} (h : sumI l = 0) : wOk l = false := by
  cases hw : wOk l
  · rfl
  · have := (wOk_iff.1 hw).2.2.1; omega

/-- The index that a rest picks. -/
def pickN : List Int → Int → Nat
  | [], _ => 0
  | a :: l, r => if r < a then 0 else pickN l (r - a) + 1
theorem pickN_lt {l : List Int} {r : Int} (h0 : 0 ≤ r) (h : r < sumI l) : pickN l r < l.length := by
  induction l generalizing r with
  | nil => rw [sumI_nil] at h; omega
  | cons a l ih =>
    unfold pickN; split
    · simp
    · have := ih (r := r - a) (by omega) (by rw [sumI_cons] at h; omega)
      simp; omega
theorem pickN_pos {l : List Int} {r : Int} (h0 : 0 ≤ r) (h : r < sumI l) (hp : pickN l r < l.length) : 0 < l[pickN l r] := by
  induction l generalizing r with
  | nil => rw [sumI_nil] at h; omega
  | cons a l ih =>
    by_cases hr : r < a
    · have e : pickN (a :: l) r = 0 := by simp [pickN, hr]
      simp only [e, List.getElem_cons_zero]; omega
    · have e : pickN (a :: l) r = pickN l (r - a) + 1 := by simp [pickN, hr]
      have h2 : r - a < sumI l := by rw [sumI_cons] at h; omega
      simp only [e, List.getElem_cons_succ]
      exact ih (by omega) h2 (pickN_lt (by omega) h2)
theorem pickN_cons_lt {a r : Int} {l : List Int} (h : r < a) : pickN (a :: l) r = 0 := by simp [pickN, h]
theorem pickN_cons_ge {a r : Int} {l : List Int} (h : a ≤ r) : pickN (a :: l) r = pickN l (r - a) + 1 := by simp [pickN]; omega
/-- One place further. -/
theorem pickN_drop {l : List Int} {r : Int} {k : Nat} (h : k < l.length) (hr : l[k] ≤ r) : pickN (l.drop k) r = pickN (l.drop (k + 1)) (r - l[k]) + 1 := by
  rw [List.drop_eq_getElem_cons h, pickN_cons_ge hr]
theorem pickN_here {l : List Int} {r : Int} {k : Nat} (h : k < l.length) (hr : r < l[k]) : pickN (l.drop k) r = 0 := by
  rw [List.drop_eq_getElem_cons h, pickN_cons_lt hr]
/-- By sums: the first place whose sum is above the rest. -/
theorem pickN_first {l : List Int} {r : Int} (ha : allB l = true) {k : Nat} (hk : k < l.length) (h1 : r < sumI (l.take (k + 1))) (h2 : ∀ j, j < k → ¬ r < sumI (l.take (j + 1))) : pickN l r = k := by
  induction k generalizing l r with
  | zero =>
    cases l with
    | nil => simp at hk
    | cons a l => 
      have : r < a := by simpa [sumI_cons, sumI_nil] using h1
      exact pickN_cons_lt this
  | succ k ih =>
    cases l with
    | nil => simp at hk
    | cons a l =>
      have h3 : ¬ r < a := by simpa [sumI_cons, sumI_nil] using h2 0 (by omega)
      rw [pickN_cons_ge (by omega)]
      have : pickN l (r - a) = k := by
        refine ih (allB_iff.2 fun x hx => allB_iff.1 ha x (by simp [hx])) (by simpa using hk) ?_ ?_
        · rw [List.take_succ_cons, sumI_cons] at h1; omega
        · intro j hj
          have := h2 (j + 1) (by omega)
          rw [List.take_succ_cons, sumI_cons] at this; omega
      rw [this]

/-! ### How often -/
def cnt (p : Nat → Bool) : Nat → Nat
  | 0 => 0
  | n + 1 => cnt p n + (if p n = true then 1 else 0)
theorem cnt_congr {p q : Nat → Bool} {n : Nat} (h : ∀ j, j < n → p j = q j) : cnt p n = cnt q n := by
  induction n with
  | zero => rfl
  | succ n ih => rw [cnt, cnt, ih fun j hj => h j (by omega), h n (by omega)]
theorem cnt_head (p : Nat → Bool) (n : Nat) : cnt p (n + 1) = (if p 0 = true then 1 else 0) + cnt (fun j => p (j + 1)) n := by
  induction n with
  | zero => simp [cnt]
  | succ n ih => rw [cnt, ih, cnt]; omega
theorem cnt_add (p : Nat → Bool) (a b : Nat) : cnt p (a + b) = cnt p a + cnt (fun j => p (a + j)) b := by
  induction b with
  | zero => simp [cnt]
  | succ b ih => rw [← Nat.add_assoc, cnt, ih, cnt]; omega
theorem cnt_all {p : Nat → Bool} {n : Nat} (h : ∀ j, j < n → p j = true) : cnt p n = n := by
  induction n with
  | zero => rfl
  | succ n ih => rw [cnt, ih fun j hj => h j (by omega), if_pos (h n (by omega))]
theorem cnt_none {p : Nat → Bool} {n : Nat} (h : ∀ j, j < n → p j = false) : cnt p n = 0 := by
  induction n with
  | zero => rfl
  | succ n ih => rw [cnt, ih fun j hj => h j (by omega), if_neg (by rw [h n (by omega)]; simp)]
/-- Over n numbers that follow each other every rest comes once. -/
theorem cnt_round (p : Nat → Bool) (n : Nat) (hn : 0 < n) (h : Nat) : cnt (fun j => p ((h + j) % n)) n = cnt p n := by
  induction h with
  | zero => exact cnt_congr fun j hj => by simp only [Nat.zero_add, Nat.mod_eq_of_lt hj]
  | succ h ih =>
    rw [← ih]
    have h1 := cnt_head (fun j => p ((h + j) % n)) n
    have h2 : cnt (fun j => p ((h + j) % n)) (n + 1) = cnt (fun j => p ((h + j) % n)) n + (if p ((h + n) % n) = true then 1 else 0) := rfl
    have h3 : (h + n) % n = h % n := by simp
    have h4 : (h + 0) % n = h % n := rfl
    rw [h3] at h2
    simp only [h4] at h1
    have h5 : cnt (fun j => p ((h + (j + 1)) % n)) n = cnt (fun j => p ((h + 1 + j) % n)) n := cnt_congr fun j _ => by
      show p ((h + (j + 1)) % n) = p ((h + 1 + j) % n)
      rw [show h + (j + 1) = h + 1 + j by omega]
    omega
/-- Of the rests below the sum each index is picked by as many as its weight. -/
theorem cnt_pick {l : List Int} (ha : allB l = true) {k : Nat} (hk : k < l.length) : (cnt (fun r => pickN l (r : Int) == k) (sumI l).toNat : Int) = l[k] := by
  induction l generalizing k with
  | nil => simp at hk
  | cons a l ih =>
    have h1 := allB_iff.1 ha a (by simp)
    have hl : allB l = true := allB_iff.2 fun x hx => allB_iff.1 ha x (by simp [hx])
    have h2 := sumI_nonneg hl
    have e : (sumI (a :: l)).toNat = a.toNat + (sumI l).toNat := by rw [sumI_cons]; omega
    rw [e, cnt_add]
    have e2 : cnt (fun j => pickN (a :: l) ((a.toNat + j : Nat) : Int) == k) (sumI l).toNat = cnt (fun j => pickN l (j : Int) + 1 == k) (sumI l).toNat := cnt_congr fun j _ => by
      show (pickN (a :: l) ((a.toNat + j : Nat) : Int) == k) = (pickN l (j : Int) + 1 == k)
      rw [pickN_cons_ge (by omega)]
      rw [show ((a.toNat + j : Nat) : Int) - a = (j : Int) by omega]
    rw [e2]
    cases k with
    | zero =>
      rw [cnt_all (fun j hj => by rw [pickN_cons_lt (by omega)]; rfl), cnt_none (fun j _ => by simp)]
      simp; omega
    | succ k =>
      rw [cnt_none (fun j hj => by rw [pickN_cons_lt (by omega)]; rfl)]
      have := ih hl (k := k) (by simpa using hk)
      simp only [List.getElem_cons_succ]
      rw [← this]
      have : cnt (fun j => pickN l (j : Int) + 1 == k + 1) (sumI l).toNat = cnt (fun j => pickN l (j : Int) == k) (sumI l).toNat := cnt_congr fun j _ => by
        show (pickN l (j : Int) + 1 == k + 1) = (pickN l (j : Int) == k)
        rw [Bool.eq_iff_iff]; simp
      rw [this]; simp
/-- What a round of counting adds. -/
def cntL (n k : Nat) (f : Nat → Nat) : List Int := (List.range k).map fun j => (cnt (fun i => f i == j) n : Int)
theorem cntL_length (n k : Nat) (f : Nat → Nat) : (cntL n k f).length = k := by simp [cntL]
theorem cntL_get {n k j : Nat} {f : Nat → Nat} (h : j < k) : (cntL n k f)[j]'(by rw [cntL_length]; exact h) = (cnt (fun i => f i == j) n : Int) := by simp [cntL]
theorem cntL_zero (k : Nat) (f : Nat → Nat) : cntL 0 k f = List.replicate k 0 := by
  apply List.ext_getElem
  · simp [cntL]
  · intro i h1 h2; simp [cntL, cnt]
theorem cntL_succ {n k : Nat} {f : Nat → Nat} (h : f n < k) : cntL (n + 1) k f = (cntL n k f).set (f n) ((cntL n k f)[f n]'(by rw [cntL_length]; exact h) + 1) := by
  apply List.ext_getElem
  · simp [cntL]
  · intro i h1 h2
    rw [cntL_length] at h1
    rw [List.getElem_set, cntL_get h1]
    split
    · rename_i e
      rw [cntL_get h, ← e]; simp [cnt]
    · rename_i e
      rw [cntL_get h1]; simp [cnt, e]
/-- After as many numbers as the sum is, the counts are the weights. -/
theorem cntL_end {l : List Int} (hw : wOk l = true) (h : Nat) : cntL (sumI l).toNat l.length (fun i => pickN l (((h + i) % (sumI l).toNat : Nat) : Int)) = l := by
  have hh := wOk_iff.1 hw
  apply List.ext_getElem
  · simp [cntL]
  · intro i h1 h2
    rw [cntL_get h2]
    rw [← cnt_pick hh.2.1 h2]
    have := cnt_round (fun r => pickN l (r : Int) == i) (sumI l).toNat (by omega) h
    exact congrArg _ this

/-! ### Orders -/
def swapL (l : List Nat) (i k : Nat) : List Nat := (l.set i (l.getD k 0)).set k (l.getD i 0)
theorem swapL_length (l : List Nat) (i k : Nat) : (swapL l i k).length = l.length := by simp [swapL]
theorem swapL_perm {l : List Nat} {i k : Nat} (hi : i < l.length) (hk : k < l.length) : (swapL l i k).Perm l := by
  have e1 : l.getD k 0 = l[k] := by simp [List.getD, hk]
  have e2 : l.getD i 0 = l[i] := by simp [List.getD, hi]
  rw [swapL, e1, e2]
  exact List.set_set_perm hi hk
/-- The exchanges at the places i down to 1. -/
def runO (f : Nat → Nat) : Nat → List Nat → List Nat
  | 0, l => l
  | i + 1, l => runO f i (swapL l (i + 1) (f (i + 1) % (i + 2)))
theorem runO_length (f : Nat → Nat) (i : Nat) (l : List Nat) : (runO f i l).length = l.length := by
  induction i generalizing l with
  | zero => rfl
  | succ i ih => rw [runO, ih, swapL_length]
theorem runO_perm (f : Nat → Nat) {i : Nat} {l : List Nat} (h : i < l.length ∨ l = []) : (runO f i l).Perm l := by
  induction i generalizing l with
  | zero => exact List.Perm.refl _
  | succ i ih =>
    rcases h with h | rfl
    · have hk : f (i + 1) % (i + 2) < l.length := Nat.lt_of_lt_of_le (Nat.mod_lt _ (by omega)) (by omega)
      exact (ih (.inl (by rw [swapL_length]; omega))).trans (swapL_perm h hk)
    · exact ih (.inr (by simp [swapL]))
def ordN (f : Nat → Nat) (n : Nat) : List Nat := runO f (n - 1) (List.range n)
theorem ordN_length (f : Nat → Nat) (n : Nat) : (ordN f n).length = n := by rw [ordN, runO_length]; simp
theorem ordN_perm (f : Nat → Nat) (n : Nat) : (ordN f n).Perm (List.range n) := by
  apply runO_perm
  rcases Nat.eq_zero_or_pos n with h | h
  · right; subst h; rfl
  · left; simp; omega
theorem ordN_lt {f : Nat → Nat} {n : Nat} {x : Nat} (h : x ∈ ordN f n) : x < n := by
  have := (ordN_perm f n).mem_iff.1 h
  simpa using this
theorem ordN_nodup (f : Nat → Nat) (n : Nat) : (ordN f n).Nodup := (ordN_perm f n).nodup_iff.2 List.nodup_range
theorem ordN_get_lt {f : Nat → Nat} {n i : Nat} (h : i < (ordN f n).length) : (ordN f n)[i] < n := ordN_lt (List.getElem_mem h)
theorem ordN_get_ne {f : Nat → Nat} {n i j : Nat} (h : i < (ordN f n).length) (hj : j < i) : (ordN f n)[j] ≠ (ordN f n)[i] := by
  intro e
  have := (List.nodup_iff_pairwise_ne.1 (ordN_nodup f n))
  rw [List.pairwise_iff_getElem] at this
  exact this j i (by omega) h hj e
/-- What has been seen. -/
def seenL (l : List Nat) (k : Nat) : List Bool := (List.range l.length).map fun x => (l.take k).contains x
theorem seenL_length (l : List Nat) (k : Nat) : (seenL l k).length = l.length := by simp [seenL]
theorem seenL_zero (l : List Nat) : seenL l 0 = List.replicate l.length false := by
  apply List.ext_getElem
  · simp [seenL]
  · intro i h1 h2; simp [seenL]
theorem seenL_get {l : List Nat} {k x : Nat} (h : x < l.length) : (seenL l k)[x]'(by rw [seenL_length]; exact h) = (l.take k).contains x := by simp [seenL]
theorem seenL_succ {l : List Nat} {k : Nat} (h : k < l.length) : seenL l (k + 1) = (seenL l k).set l[k] true := by
  apply List.ext_getElem
  · simp [seenL]
  · intro i h1 h2
    rw [seenL_length] at h1
    rw [List.getElem_set, seenL_get h1, List.take_add_one, List.getElem?_eq_getElem h]
    split
    · rename_i e; simp [e]
    · rename_i e
      rw [seenL_get h1]
      rw [Bool.eq_iff_iff]
      simp only [Option.toList_some, List.contains_eq_mem, List.mem_append, List.mem_singleton, decide_eq_true_eq]
      constructor
      · rintro (h3 | h3)
        · exact h3
        · exact absurd h3.symm e
      · exact .inl
end SM
end Go.Proofs.YtglnajjbbhokpaaDoor
