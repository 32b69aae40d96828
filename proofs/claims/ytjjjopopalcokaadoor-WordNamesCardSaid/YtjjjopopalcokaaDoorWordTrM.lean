/-
  Trunks, depths and counts of joint words; trunks of trunks. No program in sight.
-/
import Derived.Test.YtjjjopopalcokaaDoorWordUni
namespace Go.Proofs.YtjjjopopalcokaaDoor
namespace WM
set_option linter.unusedVariables false
set_option linter.unusedSimpArgs false

def trk : Int → List Md → List Md
  | _, [] => []
  | n, m :: l => if (decide (n + dlt m = 0) && !(m.c == 93)) = true then m :: trk (n + dlt m) l else trk (n + dlt m) l
theorem trk_app : ∀ (a b : List Md) (n : Int), trk n (a ++ b) = trk n a ++ trk (n + dep a) b
  | [], b, n => by rw [dep_nil, Int.add_zero]; rfl
  | m :: a, b, n => by
    have ih := trk_app a b (n + dlt m)
    rw [List.cons_append]
    simp only [trk, ih]
    rw [dep_cons, ← Int.add_assoc]
    split <;> rfl
theorem trunk_trk (l : List Md) : ∀ k, k ≤ l.length → trunk l k = trk 0 (l.take k) := by
  intro k
  induction k with
  | zero => intro _; rw [trunk_zero, List.take_zero]; rfl
  | succ k ih =>
    intro hk
    have hs := dep_snoc (l := l) (k := k) (by omega)
    rw [trunk_succ (by omega), ih (by omega), List.take_succ_eq_append_getElem (by omega), trk_app, Int.zero_add]
    rw [List.take_succ_eq_append_getElem (by omega)] at hs
    rw [hs]
    simp only [trk]
    split <;> simp
theorem sL_trk {l : List Md} (h : chk l = 0) : sL l = trk 0 l := by
  unfold sL; rw [if_pos h, trunk_trk l l.length (Nat.le_refl _), List.take_length]
def flat (l : List Md) : Prop := ∀ m ∈ l, dlt m = 0
theorem flat_dep {l : List Md} (h : flat l) : dep l = 0 := by
  induction l with
  | nil => rfl
  | cons m l ih => rw [dep_cons, h m (by simp), ih fun x hx => h x (by simp [hx])]; rfl
theorem flat_take {l : List Md} (h : flat l) (k : Nat) : flat (l.take k) := fun m hm => h m (List.mem_of_mem_take hm)
theorem dlt_93 {m : Md} (h : dlt m = 0) : (m.c == 93) = false := by
  rw [beq_eq_false_iff_ne]; intro e
  unfold dlt at h; rw [if_neg (by rw [e]; decide), if_pos e] at h; omega
theorem flat_trk : ∀ {l : List Md}, flat l → trk 0 l = l
  | [], _ => rfl
  | m :: l, h => by
    have h1 := h m (by simp)
    have ih := flat_trk (l := l) fun x hx => h x (by simp [hx])
    simp only [trk, h1, Int.add_zero, dlt_93 h1, ih]
    simp
theorem trk_mem : ∀ (l : List Md) (n : Int), (∀ k, k ≤ l.length → 0 ≤ n + dep (l.take k)) → ∀ m ∈ trk n l, m ∈ l ∧ dlt m = 0
  | [], _, _, m, h => by simp [trk] at h
  | x :: l, n, hp, m, h => by
    have h0 := hp 0 (by simp)
    have h1 := hp 1 (by simp)
    rw [List.take_zero, dep_nil] at h0
    simp only [List.take_succ_cons, List.take_zero, dep_cons, dep_nil, Int.add_zero] at h1
    have ih := trk_mem l (n + dlt x) (fun k hk => by
      have := hp (k + 1) (by simp; omega)
      rw [List.take_succ_cons, dep_cons, ← Int.add_assoc] at this; exact this)
    simp only [trk] at h
    split at h
    · rename_i hc
      rcases List.mem_cons.1 h with e | e
      · subst e
        refine ⟨by simp, ?_⟩
        simp only [Bool.and_eq_true, decide_eq_true_eq, Bool.not_eq_true', beq_eq_false_iff_ne] at hc
        rcases dlt_cases m with h2 | h2 | h2
        · omega
        · exfalso
          unfold dlt at h2
          split at h2
          · omega
          · split at h2
            · rename_i h3; exact hc.2 h3
            · omega
        · exact h2
      · exact ⟨by simp [(ih m e).1], (ih m e).2⟩
    · exact ⟨by simp [(ih m h).1], (ih m h).2⟩
theorem trk_len : ∀ (l : List Md) (n : Int), (trk n l).length ≤ l.length
  | [], _ => by simp [trk]
  | x :: l, n => by
    have := trk_len l (n + dlt x)
    simp only [trk]; split
    · simp; omega
    · simp; omega
theorem dep_ge {l : List Md} (h : chk l = 0) : ∀ k, k ≤ l.length → 0 ≤ dep (l.take k) := by
  intro k hk
  rcases Nat.eq_zero_or_pos k with h0 | h0
  · subst h0; simp [dep_nil]
  · have := okB_iff.1 (chk_zero.1 h).2.2.1 (k - 1) (by omega)
    rwa [show k - 1 + 1 = k by omega] at this
theorem sL_flat {l : List Md} (h : chk l = 0) : flat (sL l) := by
  rw [sL_trk h]
  exact fun m hm => (trk_mem l 0 (fun k hk => by rw [Int.zero_add]; exact dep_ge h k hk) m hm).2
theorem sL_sub {l : List Md} (h : chk l = 0) : ∀ m ∈ sL l, m ∈ l := by
  rw [sL_trk h]
  exact fun m hm => (trk_mem l 0 (fun k hk => by rw [Int.zero_add]; exact dep_ge h k hk) m hm).1
theorem sL_le {l : List Md} : (sL l).length ≤ l.length := by
  unfold sL; split
  · exact trunk_length _ _
  · simp
theorem flat_chk {l : List Md} (h : flat l) (hl : l.length ≤ 2000) (hf : ∀ m ∈ l, fineB m = true) : chk l = 0 := by
  refine chk_zero.2 ⟨hl, by simpa using hf, okB_iff.2 fun i hi => ?_, flat_dep h⟩
  rw [flat_dep (flat_take h _)]; exact Int.le_refl _
theorem chk_fine {l : List Md} (h : chk l = 0) : ∀ m ∈ l, fineB m = true := by
  have := (chk_zero.1 h).2.1
  simpa using this
theorem sL_chk {l : List Md} (h : chk l = 0) : chk (sL l) = 0 :=
  flat_chk (sL_flat h) (Nat.le_trans sL_le (chk_zero.1 h).1) fun m hm => chk_fine h m (sL_sub h m hm)
theorem sL_sL {l : List Md} (h : chk l = 0) : sL (sL l) = sL l := by
  rw [sL_trk (sL_chk h), flat_trk (sL_flat h)]
theorem app_chk {a b : List Md} (h1 : chk a = 0) (h2 : chk b = 0) (h3 : a.length + b.length ≤ 2000) : chk (a ++ b) = 0 := by
  refine chk_zero.2 ⟨by simpa using h3, ?_, okB_iff.2 fun i hi => ?_, ?_⟩
  · rw [List.all_append, (chk_zero.1 h1).2.1, (chk_zero.1 h2).2.1]; rfl
  · rw [List.length_append] at hi
    rw [List.take_append, dep_app]
    rcases Nat.lt_or_ge (i + 1) a.length with h | h
    · rw [show i + 1 - a.length = 0 by omega, List.take_zero, dep_nil]
      have := dep_ge h1 (i + 1) (by omega); omega
    · rw [List.take_of_length_le h, (chk_zero.1 h1).2.2.2]
      have := dep_ge h2 (i + 1 - a.length) (by omega); omega
  · rw [dep_app, (chk_zero.1 h1).2.2.2, (chk_zero.1 h2).2.2.2]; rfl
theorem app_sL {a b : List Md} (h1 : chk a = 0) (h2 : chk b = 0) (h3 : a.length + b.length ≤ 2000) : sL (a ++ b) = sL a ++ sL b := by
  rw [sL_trk (app_chk h1 h2 h3), sL_trk h1, sL_trk h2, trk_app, (chk_zero.1 h1).2.2.2]; rfl
/-- The greatest of the open brackets, gone through. -/
def dmx : Int → Int → List Md → Int
  | acc, _, [] => acc
  | acc, n, m :: l => dmx (max acc (n + dlt m)) (n + dlt m) l
theorem dmx_app : ∀ (a b : List Md) (acc n : Int), dmx acc n (a ++ b) = dmx (dmx acc n a) (n + dep a) b
  | [], b, acc, n => by rw [dep_nil, Int.add_zero]; rfl
  | m :: a, b, acc, n => by
    rw [List.cons_append]
    simp only [dmx]
    rw [dmx_app a b, dep_cons, Int.add_assoc]
theorem dmax_dmx (l : List Md) : ∀ k, k ≤ l.length → dmax l k = dmx 0 0 (l.take k) := by
  intro k
  induction k with
  | zero => intro _; rw [dmax_zero, List.take_zero]; rfl
  | succ k ih =>
    intro hk
    have hs := dep_snoc (l := l) (k := k) (by omega)
    rw [dmax_succ, ih (by omega), hs, List.take_succ_eq_append_getElem (by omega), dmx_app, Int.zero_add]
    simp only [dmx]
theorem dmx_max : ∀ (l : List Md) (acc n : Int), 0 ≤ acc → dmx acc n l = max acc (dmx 0 n l)
  | [], acc, n, h => by simp only [dmx]; omega
  | m :: l, acc, n, h => by
    simp only [dmx]
    rw [dmx_max l (max acc (n + dlt m)) _ (by omega), dmx_max l (max 0 (n + dlt m)) _ (by omega)]
    omega
theorem dmx_nonneg : ∀ (l : List Md) (acc n : Int), 0 ≤ acc → 0 ≤ dmx acc n l
  | [], acc, n, h => h
  | m :: l, acc, n, h => by simp only [dmx]; exact dmx_nonneg l _ _ (by omega)
theorem app_dp {a b : List Md} (h1 : chk a = 0) (h2 : chk b = 0) (h3 : a.length + b.length ≤ 2000) : dpI (a ++ b) = max (dpI a) (dpI b) := by
  unfold dpI
  rw [if_pos (app_chk h1 h2 h3), if_pos h1, if_pos h2, dmax_dmx _ _ (Nat.le_refl _), dmax_dmx a _ (Nat.le_refl _), dmax_dmx b _ (Nat.le_refl _)]
  rw [List.take_length, List.take_length, List.take_length, dmx_app, (chk_zero.1 h1).2.2.2, Int.add_zero, dmx_max b _ _ (dmx_nonneg a 0 0 (Int.le_refl _))]
theorem flat_dp {l : List Md} (h : flat l) : dpI l = 0 := by
  have key : ∀ k, dmax l k = 0 := by
    intro k
    induction k with
    | zero => rfl
    | succ k ih => rw [dmax_succ, ih, flat_dep (flat_take h _)]; rfl
  unfold dpI; split
  · exact key _
  · rfl
end WM
end Go.Proofs.YtjjjopopalcokaaDoor
