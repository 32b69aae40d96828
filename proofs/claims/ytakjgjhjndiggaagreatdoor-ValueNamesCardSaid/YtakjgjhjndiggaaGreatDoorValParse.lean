/-
  What Parse of package value hands back.
-/
import Derived.Test.YtakjgjhjndiggaaGreatDoorValRdLst
namespace Go.Proofs.YtakjgjhjndiggaaGreatDoor
open Go.RowKit Go.Shelf
open VM
set_option linter.unusedVariables false
set_option linter.unusedSimpArgs false

/-- Either the value whose text it is, or none. -/
def PaOk (s : By) (v : V) (c : Int) : Prop :=
  (c = 0 ∧ vchk v = 0 ∧ txt v = s ∧ s.length ≤ 4000 ∧ ∀ u, vchk u = 0 → txt u = s → v = u) ∨
  (c = 12 ∧ v = zerV ∧ ∀ u, vchk u = 0 → txt u = s → ¬ s.length ≤ 4000)
theorem PaOk.one {s : By} {v u : V} {c d : Int} (h : PaOk s v c) (k : PaOk s u d) : v = u ∧ c = d := by
  rcases h with ⟨h1, h2, h3, h4, h5⟩ | ⟨h1, h2, h3⟩
  · rcases k with ⟨k1, k2, k3, k4, k5⟩ | ⟨k1, k2, k3⟩
    · exact ⟨h5 u k2 k3, by rw [h1, k1]⟩
    · exact absurd h4 (k3 v h2 h3)
  · rcases k with ⟨k1, k2, k3, k4, k5⟩ | ⟨k1, k2, k3⟩
    · exact absurd k4 (h3 u k2 k3)
    · exact ⟨by rw [h2, k2], by rw [h1, k1]⟩
theorem numc_asc {c : UInt8} (h : numc c) : c.toNat < 128 := by
  rcases h with rfl | rfl | ⟨_, h2⟩
  · decide
  · decide
  · omega
theorem esc_asc {b : By} (h : ascii b) : asc (escL b) := by
  induction b with
  | nil => intro c hc; simp [escL] at hc
  | cons x b ih =>
    have hx := h x (by simp)
    have ih := ih fun c hc => h c (List.mem_cons_of_mem x hc)
    intro c hc
    simp only [escL] at hc
    split at hc
    · rw [List.mem_cons, List.mem_cons] at hc
      rcases hc with rfl | rfl | hc
      · decide
      · exact hx
      · exact ih c hc
    · rw [List.mem_cons] at hc
      rcases hc with rfl | hc
      · exact hx
      · exact ih c hc
theorem asc_app {a b : By} (ha : asc a) (hb : asc b) : asc (a ++ b) := fun c hc => (List.mem_append.1 hc).elim (ha c) (hb c)
theorem asc_cons {c : UInt8} {b : By} (hc : c.toNat < 128) (hb : asc b) : asc (c :: b) := fun x hx => (List.mem_cons.1 hx).elim (fun e => e ▸ hc) (hb x)
theorem tlL_asc {l : List V} (h : ∀ x ∈ l, asc (txt x)) : asc (tlL l) := by
  induction l with
  | nil => rw [tlL_nil]; exact asc_cons (by decide) (fun c hc => by simp at hc)
  | cons x l ih =>
    rw [tlL_cons]
    exact asc_cons (by decide) (asc_cons (by decide) (asc_app (h x (by simp)) (ih fun y hy => h y (List.mem_cons_of_mem x hy))))
theorem txt_asc (v : V) : fineB v = true → asc (txt v) := by
  induction v using V.ind with
  | h a l ih =>
    intro hf
    rcases fine_kind hf with hk | hk | hk | hk
    · rw [txt_1 hk]; exact fun c hc => numc_asc (textL_chars _ _ c hc)
    · rw [txt_2 hk]; cases a.t <;> (intro c hc; simp [truL] at hc)
      · rcases hc with rfl | rfl | rfl | rfl | rfl <;> decide
      · rcases hc with rfl | rfl | rfl | rfl <;> decide
    · rw [txt_3 hk, quoL]
      have hp := fine_pr hf hk
      rw [← bA_lA a.s] at hp
      exact asc_cons (by decide) (asc_app (esc_asc (pr_ascii hp)) (asc_cons (by decide) (fun c hc => by simp at hc)))
    · rw [txt_4 hk]
      have h := fun x hx => ih x hx (fine_mem hf hk hx)
      refine asc_cons (by decide) ?_
      cases l with
      | nil => rw [bod_nil]; exact asc_cons (by decide) (fun c hc => by simp at hc)
      | cons x l => rw [bod_cons]; exact asc_app (h x (by simp)) (tlL_asc fun y hy => h y (List.mem_cons_of_mem x hy))
/-- A valid value's text is read whole. -/
theorem PRd.whole {s : By} {v : V} {rest : By} {ok : Bool} (h : PRd s v rest ok) {u : V} (hu : vchk u = 0) (ht : txt u = s) : ok = true ∧ v = u ∧ rest = [] := by
  have hf := (vchk_zero.1 hu).2.2
  exact h.2 u [] (by rw [← ht]; exact txt_asc u hf) hf (by rw [ht]; simp) (.inl rfl)
theorem PaOk.no {s : By} {v : V} {rest : By} {ok : Bool} (h : PRd s v rest ok) (hn : ok = true → rest = [] → vchk v ≠ 0) : PaOk s zerV 12 :=
  .inr ⟨rfl, rfl, fun u hu ht _ => by
    obtain ⟨h1, h2, h3⟩ := h.whole hu ht
    exact hn h1 h3 (by rw [h2]; exact hu)⟩
theorem PaOk.yes {s : By} {v : V} (h : PRd s v [] true) (hv : vchk v = 0) (hl : s.length ≤ 4000) : PaOk s v 0 :=
  .inl ⟨rfl, hv, by
    have := (h.1 rfl).1 (vchk_zero.1 hv).2.2
    rw [this]; simp, hl, fun u hu ht => (h.whole hu ht).2.1⟩
theorem PaOk.long {s : By} (h : 4000 < s.length) : PaOk s zerV 12 := .inr ⟨rfl, rfl, fun u _ _ => by omega⟩
/-- What Parse hands back. -/
def PaEnd (s : By) (w : World) (e : Ending) (w' : World) : Prop :=
  ∃ (v : V) (sl : Value) (c : Int), e = .returned (.tuple #[.agg #[.int .u8 v.nd.k, .int .i64 v.nd.n, .int .i64 v.nd.d, .bool v.nd.t, .string v.nd.s, sl], .int .i64 c]) ∧ RepL (w.heap.size ≤ ·) w' v.list sl ∧ PaOk s v c ∧ Small v ∧ Below w.heap.size w w'
theorem small_zer : Small zerV := ⟨wf_zerV, by unfold zerV; rw [hgt_eq]; simp [hgtL]⟩

set_option maxHeartbeats 4000000 in
theorem vparse_any (hidx : IdxOk) (s : ByteArray) (w : World) (ht : Tab w) (hl : Len w) : Calls Tryz.prog 26 #[.string s] w (PaEnd (lA s) w) := by
  have S0 := Lib.hid (Six.new w ⟨0, 0, 0, false, ⟨#[]⟩⟩ (.slice none 0 0))
  have B0 : Hid (Below w.heap.size w (w.alloc (.cells #[.int .u8 0, .int .i64 0, .int .i64 0, .bool false, .string ⟨#[]⟩, .slice none 0 0] 28))) := Lib.hid ((Below.refl _ _).alloc (Nat.le_refl _) _)
  have HT := Lib.hid (ht.later B0.out)
  have HLn := Lib.hid (hl.later B0.out)
  clear ht hl
  by_cases hbig : 4000 < s.size
  · have HP : Hid (PaOk (lA s) zerV 12) := Lib.hid (PaOk.long (by rw [lA_len]; exact hbig))
    have hb2 : (4000 : Int) < s.size := by omega
    have e0 := S0.out.row.c0
    have e1 := S0.out.row.c1
    have e2 := S0.out.row.c2
    have e3 := S0.out.row.c3
    have e4 := S0.out.row.c4
    have e5 := S0.out.row.c5
    simp only [Nat.zero_add] at e1 e2 e3 e4 e5
    clear hbig
    go_enter Tryz.func26, Tryz.ntmps26
    go_wp2_with fail
    exact bodyPost_ret (v := .tuple #[.agg #[.int .u8 0, .int .i64 0, .int .i64 0, .bool false, .string ⟨#[]⟩, .slice none 0 0], .int .i64 12]) (by simp [results, Tryz.results26, go_sem, e0, e1, e2, e3, e4, e5] <;> rfl) rfl ⟨zerV, .slice none 0 0, 12, rfl, RepL.nil _ _ _ _, HP.out, small_zer, B0.out⟩
  · have hb2 : ¬ (4000 : Int) < s.size := by omega
    have HSz : Hid ((lA s).length ≤ 4000) := Lib.hid (by rw [lA_len]; omega)
    have KR := Lib.hid (fun w ht hl => read_all hidx 4000 (Nat.le_refl _) s w (by omega) ht hl)
    clear hidx hbig
    go_enter Tryz.func26, Tryz.ntmps26
    go_wp2_with fail
    refine (KR.out _ HT.out HLn.out).mono ?_
    rintro e w1 ⟨v, sl, rest, ok, rfl, hr1, hq, hb1⟩
    obtain ⟨p, cap, rfl⟩ := hr1.slice
    rw [World.size_alloc] at hr1
    have HQ := Lib.hid hq
    obtain ⟨W1, hW1⟩ : ∃ W1, W1 = w1.alloc (.cells #[.int .u8 v.nd.k, .int .i64 v.nd.n, .int .i64 v.nd.d, .bool v.nd.t, .string v.nd.s, .slice p v.list.length cap] 28) := ⟨_, rfl⟩
    have hbw : Below w1.heap.size w1 W1 := by rw [hW1]; exact (Below.refl _ _).alloc (Nat.le_refl _) _
    have S1 := Lib.hid ((S0.out.later hb1).later hbw)
    have HB1 := Lib.hid ((B0.out.trans (hb1.mono B0.out.size)).trans (hbw.mono (Nat.le_trans B0.out.size hb1.size)))
    have HE1 : Hid (Six W1 w1.heap.size v.nd (.slice p v.list.length cap)) := Lib.hid (by rw [hW1]; exact Six.new _ _ _)
    have HR1 := Lib.hid (hr1.later hbw)
    have dne : ¬ w1.heap.size = w.heap.size := by have := hb1.size; rw [World.size_alloc] at this; omega
    have l1 := S1.out.lt
    have q0 := S1.out.row.c0
    have q1 := S1.out.row.c1
    have q2 := S1.out.row.c2
    have q3 := S1.out.row.c3
    have q4 := S1.out.row.c4
    have q5 := S1.out.row.c5
    have f0 := S1.out.free 0
    have f1 := S1.out.free 1
    have f2 := S1.out.free 2
    have f3 := S1.out.free 3
    have f4 := S1.out.free 4
    have f5 := S1.out.free 5
    simp only [Nat.zero_add] at q1 q2 q3 q4 q5
    have HZ := Lib.hid (sixSet_six S1.out ⟨0, 0, 0, false, ⟨#[]⟩⟩ (.slice none 0 0))
    have HZb := Lib.hid (sixSet_below (a := ⟨0, 0, 0, false, ⟨#[]⟩⟩) (sl := .slice none 0 0) HB1.out (Nat.le_refl _))
    rw [hW1] at l1 q0 q1 q2 q3 q4 q5 f0 f1 f2 f3 f4 f5
    unfold sixSet at HZ HZb
    rw [hW1] at HZ HZb
    clear hr1 hq hb1 hbw
    have hno : ok = false ∨ (ok = true ∧ rest ≠ []) ∨ (ok = true ∧ rest = []) := by
      cases ok
      · exact .inl rfl
      · by_cases h : rest = []
        · exact .inr (.inr ⟨rfl, h⟩)
        · exact .inr (.inl ⟨rfl, h⟩)
    rcases hno with rfl | ⟨rfl, hne⟩ | ⟨rfl, rfl⟩
    · have HP := Lib.hid (PaOk.no HQ.out (fun e => by simp at e))
      clear hW1
      go_wp2_with fail
      have e0 := HZ.out.row.c0
      have e1 := HZ.out.row.c1
      have e2 := HZ.out.row.c2
      have e3 := HZ.out.row.c3
      have e4 := HZ.out.row.c4
      have e5 := HZ.out.row.c5
      simp only [Nat.zero_add] at e1 e2 e3 e4 e5
      exact bodyPost_ret (v := .tuple #[.agg #[.int .u8 0, .int .i64 0, .int .i64 0, .bool false, .string ⟨#[]⟩, .slice none 0 0], .int .i64 12]) (by simp [results, Tryz.results26, go_sem, q0, q1, q2, q3, q4, q5, l1, e0, e1, e2, e3, e4, e5] <;> rfl) rfl ⟨zerV, .slice none 0 0, 12, rfl, RepL.nil _ _ _ _, HP.out, small_zer, HZb.out⟩
    · have HP := Lib.hid (PaOk.no HQ.out (fun _ e => absurd e hne))
      have z1 : (bA rest).toList.isEmpty = false := by
        rw [ByteArray.toList_eq]
        cases rest with
        | nil => exact absurd rfl hne
        | cons c t => rfl
      have z2 : ((bA rest).toList == []) = false := by rw [← z1]; cases (bA rest).toList <;> rfl
      have z3 : ¬ (bA rest).toList = [] := by intro e; rw [e] at z1; simp at z1
      clear hW1 hne
      go_wp2_with fail
      have e0 := HZ.out.row.c0
      have e1 := HZ.out.row.c1
      have e2 := HZ.out.row.c2
      have e3 := HZ.out.row.c3
      have e4 := HZ.out.row.c4
      have e5 := HZ.out.row.c5
      simp only [Nat.zero_add] at e1 e2 e3 e4 e5
      exact bodyPost_ret (v := .tuple #[.agg #[.int .u8 0, .int .i64 0, .int .i64 0, .bool false, .string ⟨#[]⟩, .slice none 0 0], .int .i64 12]) (by simp [results, Tryz.results26, go_sem, q0, q1, q2, q3, q4, q5, l1, e0, e1, e2, e3, e4, e5] <;> rfl) rfl ⟨zerV, .slice none 0 0, 12, rfl, RepL.nil _ _ _ _, HP.out, small_zer, HZb.out⟩
    · have HSm : Hid (Small v) := Lib.hid (by
        obtain ⟨_, h2, h3, h4⟩ := HQ.out.1 rfl
        refine ⟨h2, ?_⟩
        have := HSz.out; omega)
      have HC := Lib.hid (vcheck_any v.nd v.list p cap W1 (by rw [V.eta]; exact HSm.out) HR1.out.bound)
      have ez : bA [] = (⟨#[]⟩ : ByteArray) := rfl
      rw [V.eta, hW1] at HC
      go_wp2_with fail
      refine HC.out.mono ?_
      rw [← hW1]
      clear hW1 HC
      rintro e w2 ⟨rfl, hb2⟩
      have S2 := Lib.hid (S1.out.later hb2)
      have HE2 := Lib.hid (HE1.out.later hb2)
      have HR2 := Lib.hid (HR1.out.later hb2)
      have HB2 := Lib.hid (HB1.out.trans (hb2.mono HB1.out.size))
      clear hb2 q0 q1 q2 q3 q4 q5 f0 f1 f2 f3 f4 f5 l1 HZ HZb
      have l1 := S2.out.lt
      have q0 := S2.out.row.c0
      have q1 := S2.out.row.c1
      have q2 := S2.out.row.c2
      have q3 := S2.out.row.c3
      have q4 := S2.out.row.c4
      have q5 := S2.out.row.c5
      have f0 := S2.out.free 0
      have f1 := S2.out.free 1
      have f2 := S2.out.free 2
      have f3 := S2.out.free 3
      have f4 := S2.out.free 4
      have f5 := S2.out.free 5
      simp only [Nat.zero_add] at q1 q2 q3 q4 q5
      have l2 := HE2.out.lt
      have m0 := HE2.out.row.c0
      have m1 := HE2.out.row.c1
      have m2 := HE2.out.row.c2
      have m3 := HE2.out.row.c3
      have m4 := HE2.out.row.c4
      have m5 := HE2.out.row.c5
      simp only [Nat.zero_add] at m1 m2 m3 m4 m5
      by_cases hv : vchk v = 0
      · have HP := Lib.hid (PaOk.yes HQ.out hv HSz.out)
        have hv1 : (vchk v == 0) = true := by rw [hv]; rfl
        have hv2 : (vchk v != 0) = false := by rw [hv]; rfl
        have HE := rd_store S2.out HR2.out HB2.out
        unfold sixSet at HE
        have HE' := Lib.hid HE
        have e0 := HE.1.row.c0
        have e1 := HE.1.row.c1
        have e2 := HE.1.row.c2
        have e3 := HE.1.row.c3
        have e4 := HE.1.row.c4
        have e5 := HE.1.row.c5
        simp only [Nat.zero_add] at e1 e2 e3 e4 e5
        clear HE hv
        go_wp2_with fail
        exact bodyPost_ret (v := .tuple #[.agg #[.int .u8 v.nd.k, .int .i64 v.nd.n, .int .i64 v.nd.d, .bool v.nd.t, .string v.nd.s, .slice p v.list.length cap], .int .i64 0]) (by simp [results, Tryz.results26, go_sem, q0, q1, q2, q3, q4, q5, l1, e0, e1, e2, e3, e4, e5] <;> rfl) rfl ⟨v, .slice p v.list.length cap, 0, rfl, HE'.out.2.1, HP.out, HSm.out, HE'.out.2.2⟩
      · have HP := Lib.hid (PaOk.no HQ.out (fun _ _ => hv))
        have hv1 : (vchk v == 0) = false := beq_eq_false_iff_ne.2 hv
        have hv2 : (vchk v != 0) = true := by simp [bne, hv1]
        have HZ := Lib.hid (sixSet_six S2.out ⟨0, 0, 0, false, ⟨#[]⟩⟩ (.slice none 0 0))
        have HZb := Lib.hid (sixSet_below (a := ⟨0, 0, 0, false, ⟨#[]⟩⟩) (sl := .slice none 0 0) HB2.out (Nat.le_refl _))
        unfold sixSet at HZ HZb
        clear hv
        go_wp2_with fail
        have e0 := HZ.out.row.c0
        have e1 := HZ.out.row.c1
        have e2 := HZ.out.row.c2
        have e3 := HZ.out.row.c3
        have e4 := HZ.out.row.c4
        have e5 := HZ.out.row.c5
        simp only [Nat.zero_add] at e1 e2 e3 e4 e5
        exact bodyPost_ret (v := .tuple #[.agg #[.int .u8 0, .int .i64 0, .int .i64 0, .bool false, .string ⟨#[]⟩, .slice none 0 0], .int .i64 12]) (by simp [results, Tryz.results26, go_sem, q0, q1, q2, q3, q4, q5, l1, e0, e1, e2, e3, e4, e5] <;> rfl) rfl ⟨zerV, .slice none 0 0, 12, rfl, RepL.nil _ _ _ _, HP.out, small_zer, HZb.out⟩
end Go.Proofs.YtakjgjhjndiggaaGreatDoor
