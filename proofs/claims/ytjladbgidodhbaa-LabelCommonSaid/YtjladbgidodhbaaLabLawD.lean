/-
  LabelCommon, LabelOrder and LabelNear: what the walks owe.
-/
import Derived.Test.YtjladbgidodhbaaLabLawC
namespace Go.Proofs.Ytjladbgidodhbaa
open Go.RowKit Go.Shelf
open LM
set_option linter.unusedVariables false
set_option linter.unusedSimpArgs false

theorem lA_empty : lA ByteArray.empty = [] := rfl
theorem com_cut {p q : Bs} (hp : chk p = 0) : cutL (comL p q) = (cutL p).take (sharedL (cutL p) (cutL q)) := by
  unfold comL
  exact cutL_pathL (fun x hx => cut_steps hp x (List.mem_of_mem_take hx))
theorem com_chk {p q : Bs} (hp : chk p = 0) : chk (comL p q) = 0 := by
  obtain ⟨h1, h2, h3⟩ := chk_zero.1 hp
  refine chk_zero.2 ⟨Nat.le_trans (comL_len p q) h1, ?_, ?_⟩
  · rw [com_cut hp, List.length_take]; omega
  · rw [com_cut hp]; exact fun x hx => h3 x (List.mem_of_mem_take hx)
theorem com_comm {p q : Bs} : comL p q = comL q p := by
  unfold comL
  rw [sharedL_take, sharedL_comm]
theorem und_com {p q : Bs} (hp : chk p = 0) : undB p (comL p q) = true := by
  rw [undB_iff, com_cut hp]; exact List.take_prefix _ _
theorem und_both {p q o : Bs} (hp : chk p = 0) : undB (comL p q) o = (undB p o && undB q o) := by
  rw [Bool.eq_iff_iff, Bool.and_eq_true, undB_iff, undB_iff, undB_iff, com_cut hp]
  exact prefix_shared _ _ _
theorem common_walk (p q o : ByteArray) (w : World) (hl : Len w) : Calls Try.prog 7 #[.string p, .string q, .string o] w fun e w' => e = .returned (.bool true) ∧ Below w.heap.size w w' := by
  cases hf1 : fitB (lA p) (lA q)
  · exact common_not1 p q o hf1 w hl
  cases hf2 : fitB (lA o) (lA ByteArray.empty)
  · exact common_not2 p q o hf1 hf2 w hl
  obtain ⟨hp, hq⟩ := fit_yes.1 hf1
  have ho := (fit_yes.1 hf2).1
  have sp := chk_size hp
  have sq := chk_size hq
  have so := chk_size ho
  have hc := com_chk (q := lA q) hp
  have sc : (bA (comL (lA p) (lA q))).size ≤ 4000 := by rw [bA_size]; exact (chk_zero.1 hc).1
  have C1 : ∀ w, Len w → Calls Try.prog 26 #[.string p, .string q] w fun e w' => e = .returned (.tuple #[.string (bA (comL (lA p) (lA q))), .int .i64 0]) ∧ Below w.heap.size w w' := fun w hl => by
    have := labcommon_any p q (by omega) (by omega) w hl
    have hb : both (lA p) (lA q) = 0 := both_zero.2 ⟨hp, hq⟩
    rwa [comR, hb, if_pos rfl] at this
  have C2 : ∀ w, Len w → Calls Try.prog 26 #[.string q, .string p] w fun e w' => e = .returned (.tuple #[.string (bA (comL (lA p) (lA q))), .int .i64 0]) ∧ Below w.heap.size w w' := fun w hl => by
    have := labcommon_any q p (by omega) (by omega) w hl
    have hb : both (lA q) (lA p) = 0 := both_zero.2 ⟨hq, hp⟩
    rwa [comR, hb, if_pos rfl, com_comm] at this
  have U : ∀ (a b : ByteArray), a.size ≤ 4000 → b.size ≤ 4000 → chk (lA a) = 0 → chk (lA b) = 0 → ∀ v, undB (lA a) (lA b) = v → ∀ w, Len w → Calls Try.prog 24 #[.string a, .string b] w fun e w' => e = .returned (.tuple #[.bool v, .int .i64 0]) ∧ Below w.heap.size w w' := fun a b ha hb ca cb v hv w hl => by
    have := labunder_any a b (by omega) (by omega) w hl
    have h0 : both (lA a) (lA b) = 0 := both_zero.2 ⟨ca, cb⟩
    rwa [undR, h0, decide_eq_true rfl, Bool.true_and, hv] at this
  have hc' : chk (lA (bA (comL (lA p) (lA q)))) = 0 := by rw [lA_bA]; exact hc
  have U1 := U p _ sp sc hp hc' true (by rw [lA_bA]; exact und_com hp)
  have U2 := U q _ sq sc hq hc' true (by rw [lA_bA, com_comm]; exact und_com hq)
  have hz := und_both (q := lA q) (o := lA o) hp
  cases hx : undB (lA p) (lA o) <;> cases hy : undB (lA q) (lA o) <;> rw [hx, hy] at hz
  · exact common_false_false p q o _ hf1 hf2 C1 C2 U1 U2 (U p o sp so hp ho _ hx) (U q o sq so hq ho _ hy) (U _ o sc so hc' ho _ (by rw [lA_bA]; exact hz)) w hl
  · exact common_false_true p q o _ hf1 hf2 C1 C2 U1 U2 (U p o sp so hp ho _ hx) (U q o sq so hq ho _ hy) (U _ o sc so hc' ho _ (by rw [lA_bA]; exact hz)) w hl
  · exact common_true_false p q o _ hf1 hf2 C1 C2 U1 U2 (U p o sp so hp ho _ hx) (U q o sq so hq ho _ hy) (U _ o sc so hc' ho _ (by rw [lA_bA]; exact hz)) w hl
  · exact common_true_true p q o _ hf1 hf2 C1 C2 U1 U2 (U p o sp so hp ho _ hx) (U q o sq so hq ho _ hy) (U _ o sc so hc' ho _ (by rw [lA_bA]; exact hz)) w hl

/-- Compare of two paths, its value given. -/
theorem cmp_at (a b : ByteArray) (ca : chk (lA a) = 0) (cb : chk (lA b) = 0) (v : Int) (hv : cmpP (lA a) (lA b) = v) : ∀ w, Len w → Calls Try.prog 28 #[.string a, .string b] w fun e w' => e = .returned (.tuple #[.int .i64 v, .int .i64 0]) ∧ Below w.heap.size w w' := fun w hl => by
  have sa := chk_size ca
  have sb := chk_size cb
  have := labcmp_any a b (by omega) (by omega) w hl
  have h0 : both (lA a) (lA b) = 0 := both_zero.2 ⟨ca, cb⟩
  rwa [cmpR, h0, if_pos rfl, hv] at this
theorem und_at (a b : ByteArray) (ca : chk (lA a) = 0) (cb : chk (lA b) = 0) (v : Bool) (hv : undB (lA a) (lA b) = v) : ∀ w, Len w → Calls Try.prog 24 #[.string a, .string b] w fun e w' => e = .returned (.tuple #[.bool v, .int .i64 0]) ∧ Below w.heap.size w w' := fun w hl => by
  have sa := chk_size ca
  have sb := chk_size cb
  have := labunder_any a b (by omega) (by omega) w hl
  have h0 : both (lA a) (lA b) = 0 := both_zero.2 ⟨ca, cb⟩
  rwa [undR, h0, decide_eq_true rfl, Bool.true_and, hv] at this
theorem order_walk (p q r : ByteArray) (w : World) (hl : Len w) : Calls Try.prog 8 #[.string p, .string q, .string r] w fun e w' => e = .returned (.bool true) ∧ Below w.heap.size w w' := by
  cases hf1 : fitB (lA p) (lA q)
  · exact order_not1 p q r hf1 w hl
  cases hf2 : fitB (lA r) (lA ByteArray.empty)
  · exact order_not2 p q r hf1 hf2 w hl
  obtain ⟨hp, hq⟩ := fit_yes.1 hf1
  have hr := (fit_yes.1 hf2).1
  have ra := cmpP_ord.range (lA p) (lA q)
  have rc := cmpP_ord.range (lA q) (lA r)
  have rd := cmpP_ord.range (lA p) (lA r)
  have an := cmpP_ord.anti (lA q) (lA p)
  have tr := cmpP_ord.trans (lA p) (lA q) (lA r)
  have st := fun h1 h2 => cmpP_ord.strict (a := lA p) (b := lA q) (d := lA r) h1 h2
  have eq := cmpP_eq hp hq
  rcases (by omega : cmpP (lA p) (lA q) = 1 ∨ cmpP (lA p) (lA q) = -1 ∨ cmpP (lA p) (lA q) = 0) with ha | ha | ha
  · have hne : p ≠ q := fun e => by rw [e, cmpP_ord.zero] at ha; exact absurd ha (by decide)
    exact order_gt p q r _ _ hne hf1 hf2 (cmp_at p q hp hq _ ha) (cmp_at q p hq hp _ (by omega)) (cmp_at q r hq hr _ rfl) (cmp_at p r hp hr _ rfl) w hl
  · have hne : p ≠ q := fun e => by rw [e, cmpP_ord.zero] at ha; exact absurd ha (by decide)
    rcases (by omega : cmpP (lA q) (lA r) = 1 ∨ cmpP (lA q) (lA r) = 0 ∨ cmpP (lA q) (lA r) = -1) with hc | hc | hc
    · exact order_lt_gt p q r _ hne hf1 hf2 (cmp_at p q hp hq _ ha) (cmp_at q p hq hp _ (by omega)) (cmp_at q r hq hr _ hc) (cmp_at p r hp hr _ rfl) w hl
    · have hd : cmpP (lA p) (lA r) = -1 := by
        have := tr (by omega) (by omega)
        by_cases h0 : cmpP (lA p) (lA r) = 0
        · have := (st (by omega) (by omega) h0).1; omega
        · omega
      exact order_lt_eq p q r hne hf1 hf2 (cmp_at p q hp hq _ ha) (cmp_at q p hq hp _ (by omega)) (cmp_at q r hq hr _ hc) (cmp_at p r hp hr _ hd) w hl
    · have hd : cmpP (lA p) (lA r) = -1 := by
        have := tr (by omega) (by omega)
        by_cases h0 : cmpP (lA p) (lA r) = 0
        · have := (st (by omega) (by omega) h0).1; omega
        · omega
      exact order_lt_lt p q r hne hf1 hf2 (cmp_at p q hp hq _ ha) (cmp_at q p hq hp _ (by omega)) (cmp_at q r hq hr _ hc) (cmp_at p r hp hr _ hd) w hl
  · obtain rfl : p = q := lA_inj (eq.1 ha)
    rcases (by omega : cmpP (lA p) (lA r) = 1 ∨ cmpP (lA p) (lA r) = 0 ∨ cmpP (lA p) (lA r) = -1) with hc | hc | hc
    · exact order_eq_gt p r _ hf1 hf2 (cmp_at p p hp hq _ ha) (cmp_at p p hq hp _ ha) (cmp_at p r hq hr _ hc) (cmp_at p r hp hr _ rfl) w hl
    · exact order_eq_eq p r hf1 hf2 (cmp_at p p hp hq _ ha) (cmp_at p p hq hp _ ha) (cmp_at p r hq hr _ hc) (cmp_at p r hp hr _ hc) w hl
    · exact order_eq_lt p r hf1 hf2 (cmp_at p p hp hq _ ha) (cmp_at p p hq hp _ ha) (cmp_at p r hq hr _ hc) (cmp_at p r hp hr _ hc) w hl

theorem near_walk (p q r : ByteArray) (w : World) (hl : Len w) : Calls Try.prog 9 #[.string p, .string q, .string r] w fun e w' => e = .returned (.bool true) ∧ Below w.heap.size w w' := by
  cases hf1 : fitB (lA p) (lA q)
  · exact near_not1 p q r hf1 w hl
  cases hf2 : fitB (lA r) (lA ByteArray.empty)
  · exact near_not2 p q r hf1 hf2 w hl
  obtain ⟨hp, hq⟩ := fit_yes.1 hf1
  have hr := (fit_yes.1 hf2).1
  have C1 := cmp_at p q hp hq _ rfl
  have C2 := cmp_at p r hp hr _ rfl
  have C3 := cmp_at q r hq hr _ rfl
  cases hu : undB (lA q) (lA p)
  · exact near_off p q r _ _ _ _ hf1 hf2 (und_at q p hq hp _ hu) (und_at r p hr hp _ rfl) C1 C2 C3 w hl
  · obtain ⟨t, ht⟩ := undB_iff.1 hu
    have ha : cmpP (lA p) (lA q) ≤ 0 := by
      unfold cmpP
      rw [← ht, lexC_prefix cmpS_ord]
      split <;> omega
    cases ho : undB (lA r) (lA p)
    · by_cases hb : 0 < cmpP (lA p) (lA r)
      · exact near_gt p q r _ _ _ ha hb hf1 hf2 (und_at q p hq hp _ hu) (und_at r p hr hp _ ho) C1 C2 C3 w hl
      · have hc : cmpP (lA q) (lA r) < 0 := by
          have hn : ¬ cutL (lA p) <+: cutL (lA r) := fun h => by rw [undB_iff.2 h] at ho; exact absurd ho (by simp)
          have := lexC_near cmpS_ord (S := fun a => stepB a = true) (fun a b ha hb => cmpS_eq ha hb) (cutL (lA p)) t (cutL (lA r)) (chk_zero.1 hp).2.2 (chk_zero.1 hr).2.2 hn (by unfold cmpP at hb; omega)
          unfold cmpP
          rwa [← ht]
        exact near_lt p q r _ _ _ ha (by omega) hc hf1 hf2 (und_at q p hq hp _ hu) (und_at r p hr hp _ ho) C1 C2 C3 w hl
    · exact near_both p q r _ _ _ ha hf1 hf2 (und_at q p hq hp _ hu) (und_at r p hr hp _ ho) C1 C2 C3 w hl
end Go.Proofs.Ytjladbgidodhbaa
