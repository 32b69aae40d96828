/-
  What Check of package label hands back.
-/
import Derived.Test.YtjladbgidodhbaaLabSteps
namespace Go.Proofs.Ytjladbgidodhbaa
open Go.RowKit Go.Shelf
open LM
set_option linter.unusedVariables false
set_option linter.unusedSimpArgs false
attribute [local go_sem] Oper.semAt_some

theorem many_iff {p : Bs} : 40 < (cutL p).length ↔ 39 < p.count 47 := by
  rw [cutL_length]
  split
  · rename_i h; subst h; simp
  · omega
theorem steps_stops (n Bp n₀ : Nat) (s : ByteArray) (hs : s.size ≤ 100000) (hg : 0 < n₀) (w : World) (hn₀ : n₀ ≤ w.heap.size) (hBp : Bp < w.heap.size) (hc : w.cell? ⟨Bp, 0, none⟩ = some (.string s)) (hl : Len w) :
    SeqStopsK Fence.wide n Try.prog 53 #[.pointer (some ⟨Bp, 0, none⟩)] (fun x : Bs => #[sV (clip x)]) (Below n₀) (fun ys => ys = cutL (lA s)) (fun pre => pre <+: cutL (lA s)) (cutL (lA s)).length w := fun l J Jx W hW hJ hJx hY h0 =>
  steps1_in n l Bp n₀ W.heap.size s hs hg J Jx hJ hJx hY W (Nat.le_trans hn₀ hW.size) ((hW.cell (p := ⟨Bp, 0, none⟩) hBp).trans hc) (hl.later hW) h0
/-- parse of a list of bytes. -/
theorem parse_l (x : Bs) (hx : x.length ≤ 200000) (w : World) (hl : Len w) : Calls Try.prog 40 #[.string (bA x)] w fun e w' => e = .returned (.tuple #[.agg #[.string (bA (stN x)), .int .i64 (stI x)], .bool (stepB x)]) ∧ Below w.heap.size w w' := by
  have := parse_any (bA x) (by rw [bA_size]; exact hx) w hl
  unfold PaEnd at this
  rwa [lA_bA] at this
/-- What a world Below another keeps for a loop over an iterator. -/
theorem keeps_of_below {W W' : World} (h : Below W.heap.size W W') (B : Nat) : KeepsFrom B W W' :=
  ⟨h.size, fun k o _ hk _ => (h.block k (Array.getElem?_eq_some_iff.1 hk).1).trans hk⟩
theorem boxed_below {W W' : World} {B : Nat} {t : TypeId} {v : Value} (h : Boxed W B t v) (hb : Below W.heap.size W W') : Boxed W' B t v := (hb.block B h.lt).trans h

set_option maxHeartbeats 1000000 in
theorem check_early (s : ByteArray) (hs : s.size ≤ 100000) (h : 4000 < s.size ∨ 39 < (lA s).count 47) (w : World) :
    Calls Try.prog 19 #[.string s] w fun e w' => e = .returned (.int .i64 (chk (lA s))) ∧ Below w.heap.size w w' := by
  have HC : Hid (chk (lA s) = 4) := Lib.hid (by
    by_cases hb : 4000 < (lA s).length
    · exact chk_long hb
    · rw [lA_len] at hb
      exact chk_many (by rw [lA_len]; omega) (many_iff.2 (by omega)))
  by_cases hb : (4000 : Int) < s.size
  · clear h
    go_enter Try.func19, Try.ntmps19
    go_wp2_with fail
    refine bodyPost_ret (v := .int .i64 4) (by simp [results, Try.results19, go_sem]) rfl ⟨ret_int HC.out.symm, ?_⟩
    exact (Below.refl _ _).alloc (Nat.le_refl _) _
  · obtain ⟨c, hc⟩ : ∃ c, (lA s).count 47 = c := ⟨_, rfl⟩
    have K1 : Hid (∀ w, Calls Try.prog 43 #[.string s, .string ⟨#[47]⟩] w fun e w' => e = .returned (.int .i64 (c : Nat)) ∧ w = w') := Lib.hid (fun w => by
      have := count_lib s 47 w
      rwa [hc] at this)
    have h2 : (39 : Int) < c := by omega
    have h3 : 39 < c := by omega
    clear h hc
    go_enter Try.func19, Try.ntmps19
    go_wp2_with fail
    refine (K1.out _).mono ?_
    rintro e ws ⟨rfl, rfl⟩
    go_wp2_with fail
    refine bodyPost_ret (v := .int .i64 4) (by simp [results, Try.results19, go_sem]) rfl ⟨ret_int HC.out.symm, ?_⟩
    exact (Below.refl _ _).alloc (Nat.le_refl _) _

theorem cut_bad (s : ByteArray) (p : List Bs) (hp : p <+: cutL (lA s)) (h1 : ¬ 4000 < (lA s).length) (h2 : ¬ 40 < (cutL (lA s)).length) (hx : ∃ x ∈ p, stepB (clip x) = false) : chk (lA s) = 12 := by
  obtain ⟨x, hm, hb⟩ := hx
  have hm2 := hp.subset hm
  rw [clip_eq (by have := cutL_len hm2; omega)] at hb
  exact chk_bad h1 h2 hm2 hb
theorem cut_good (s : ByteArray) (h1 : ¬ 4000 < (lA s).length) (h2 : ¬ 40 < (cutL (lA s)).length) (hx : ∀ x ∈ cutL (lA s), stepB (clip x) = true) : chk (lA s) = 0 :=
  chk_good h1 h2 fun x hm => by
    have := hx x hm
    rwa [clip_eq (by have := cutL_len hm; omega)] at this
set_option maxRecDepth 100000 in
set_option maxHeartbeats 2000000 in
theorem check_loop (s : ByteArray) (hs : s.size ≤ 100000) (h1 : ¬ 4000 < s.size) (h2 : ¬ 39 < (lA s).count 47) (w : World) (hl : Len w) :
    Calls Try.prog 19 #[.string s] w fun e w' => e = .returned (.int .i64 (chk (lA s))) ∧ Below w.heap.size w w' := by
  have HBig : Hid (¬ 4000 < (lA s).length) := Lib.hid (by rw [lA_len]; exact h1)
  have HMany : Hid (¬ 40 < (cutL (lA s)).length) := Lib.hid (fun e => h2 (many_iff.1 e))
  have HL := Lib.hid hl
  obtain ⟨c, hc⟩ : ∃ c, (lA s).count 47 = c := ⟨_, rfl⟩
  have K1 : Hid (∀ w, Calls Try.prog 43 #[.string s, .string ⟨#[47]⟩] w fun e w' => e = .returned (.int .i64 (c : Nat)) ∧ w = w') := Lib.hid (fun w => by
    have := count_lib s 47 w
    rwa [hc] at this)
  have z1 : ¬ (4000 : Int) < s.size := by omega
  have z2 : ¬ (39 : Int) < c := by omega
  have z3 : decide ((39 : Int) < c) = false := by rw [decide_eq_false_iff_not]; omega
  clear h1 h2 hc hl
  refine (callsIn_wide (n := 8)).1 ?_
  refine callsIn_of_wp_marks Try.func19 rfl trivial ?_ rfl
  simp only [Try.ntmps19, List.size_toArray, List.length_cons, List.length_nil, Nat.reduceAdd, Nat.reduceSub, Array.replicate_succ, Array.replicate_zero, List.push_toArray, List.append_toArray, List.nil_append, List.cons_append]
  gi_wp2_with fail
  refine ⟨trivial, ?_⟩
  refine (callsIn_wide.2 (K1.out _)).mono ?_
  rintro e ws ⟨rfl, rfl⟩
  gi_wp2_with fail
  refine ⟨trivial, ?_⟩
  refine (callsIn_wide.2 (steps_any s _)).mono ?_
  rintro e ws ⟨rfl, rfl⟩
  gi_wp2_with fail
  have HBc := Lib.hid (fun p hp => cut_bad s p hp HBig.out HMany.out)
  have HGd := Lib.hid (cut_good s HBig.out HMany.out)
  obtain ⟨W0, hW0⟩ : ∃ W0, W0 = (w.alloc (.cells #[.int .i64 0] 23)).alloc (.cells #[.string s] 58) := ⟨_, rfl⟩
  have hsz : W0.heap.size = w.heap.size + 2 := by rw [hW0]; simp
  have HB0 : Hid (Below w.heap.size w W0) := Lib.hid (by rw [hW0]; exact ((Below.refl _ _).alloc (Nat.le_refl _) _).alloc (by simp) _)
  have HV0 : Hid (Boxed W0 w.heap.size 23 (.int .i64 0)) := Lib.hid (by rw [hW0]; exact (Boxed.new w 23 (.int .i64 0)).alloc _)
  have HP0 : Hid (W0.cell? ⟨w.heap.size + 1, 0, none⟩ = some (.string s)) := Lib.hid (by rw [hW0]; simp)
  rw [← hW0]
  clear hW0
  have HSz := Lib.hid hsz
  clear hsz
  refine wpIn_rangeFunc_ownG rfl (by omega) (gf := 53) (lb := #[.pointer (some ⟨w.heap.size + 1, 0, none⟩)]) rfl trivial (enters_of Try.func53 (by kernel_rfl) rfl)
    (steps_stops 7 (w.heap.size + 1) w.heap.size s hs HL.out.lt W0 HB0.out.size (by rw [HSz.out]; omega) HP0.out (HL.out.later HB0.out)) belowK_t (belowK_b HB0.out.size) (Below.refl _ _) (fun _ => rfl)
    (fun pre W => ((∀ x ∈ pre, stepB (clip x) = true) ∧ Boxed W w.heap.size 23 (.int .i64 0)) ∧ Below w.heap.size w W)
    (fun c pre W => ((c = .ret ∧ ∃ x ∈ pre, stepB (clip x) = false) ∧ Boxed W w.heap.size 23 (.int .i64 12)) ∧ Below w.heap.size w W)
    (OwnFrom.and (OwnFrom.and (ownFrom_pure _ _) (Own.from (boxed_own _ _ _) _)) (ownFrom_below (Nat.le_refl _) HB0.out.size))
    (fun c => OwnFrom.and (OwnFrom.and (ownFrom_pure _ _) (Own.from (boxed_own _ _ _) _)) (ownFrom_below (Nat.le_refl _) HB0.out.size))
    ⟨⟨by simp, HV0.out⟩, HB0.out⟩
    (fun x => { tmps := #[.string s, undef, .pointer (some ⟨w.heap.size, 0, none⟩), sV (clip x), undef, undef, .string s, .int .i64 s.size, .bool false, .bool false, .string s, .int .i64 c, .bool false, .bool false, .string s, .func (.func 53) #[] #[.pointer (some ⟨w.heap.size + 1, 0, none⟩)], sV (clip x), undef, undef, undef, undef, undef, undef, undef], defers := [] }) ?assign ?body ?done ?stop
  case assign =>
    intro l x W K hK
    gi_wp2
    exact hK
  case body =>
    rintro l pre x W ⟨⟨hp, hv⟩, hB⟩ _
    have HP := Lib.hid hp
    have HV := Lib.hid hv
    have HB := Lib.hid hB
    clear hp hv hB
    have HLW := Lib.hid (HL.out.later HB.out)
    have hge : w.heap.size ≤ W.heap.size := HB.out.size
    gi_wp2_with fail
    refine ⟨trivial, ?_⟩
    refine (CallsIn.inRound l (callsIn_wide.2 (parse_l (clip x) (clip_len x) W HLW.out))).mono ?_
    rintro e w1 ⟨rfl, hb⟩
    have HV1 := Lib.hid (boxed_below HV.out hb)
    have HK1 := Lib.hid (keeps_of_below hb W0.heap.size)
    have HB1 := Lib.hid (HB.out.trans (hb.mono HB.out.size))
    have HBW := Lib.hid (hb.mono HB.out.size)
    have hlt1 := HV1.out.lt
    have hc1 := HV1.out.cell
    have hf1 := HV1.out.frozen
    clear hb
    cases hst : stepB (clip x)
    · gi_wp2_with fail
      refine ⟨(HK1.out.trans ((KeepsOthers.setCell _ _ _).from _)).trans ((KeepsOthers.alloc _ _).from _), ⟨⟨rfl, x, by simp, hst⟩, ?_⟩, ?_⟩
      · exact (HV1.out.set _).alloc _
      · exact (HB1.out.setCell (p := ⟨w.heap.size, 0, none⟩) (Nat.le_refl _) _).alloc (by have := HB1.out.size; simp [World.setCell]; omega) _
    · gi_wp2_with fail
      refine ⟨HK1.out.trans ((KeepsOthers.alloc _ _).from _), ?_, ⟨⟨?_, HV1.out.alloc _⟩, HB1.out.alloc HB1.out.size _⟩⟩
      · exact HBW.out.alloc HB1.out.size _
      · intro y hy
        rw [List.mem_append, List.mem_singleton] at hy
        rcases hy with hy | rfl
        · exact HP.out y hy
        · exact hst
  case done =>
    rintro D ys W hD rfl ⟨⟨hp, hv⟩, hB⟩ hK
    have HC := Lib.hid (HGd.out hp)
    have HV := Lib.hid hv
    have HB := Lib.hid hB
    have HK := Lib.hid hK
    have hD2 : w.heap.size ≤ D := Nat.le_trans HB0.out.size hD
    have HD := Lib.hid hD
    clear hp hB hD hK hv
    have hlt1 := HV.out.lt
    have hc1 := HV.out.cell
    have hf1 := HV.out.frozen
    gi_wp2_with fail
    have hK' := (KeepsOthers.setCell W ⟨w.heap.size, 0, none⟩ (.int .i64 0)).same D _ HK.out rfl
    refine ⟨by simp, .inl ⟨_, _, rfl, run_takeDeferred hK', ?_⟩⟩
    have hv' := HV.out.set (.int .i64 0)
    have hc5 := cell_kept hv'.cell (grownBy_putObj' _ D (.deferred none)) (fun r e => by cases e; exact ⟨_, hK', rfl⟩)
    refine ⟨.int .i64 0, by simp [results, Try.f19, go_sem, hc5], ret_int HC.out.symm, ?_⟩
    exact (HB.out.setCell (p := ⟨w.heap.size, 0, none⟩) (Nat.le_refl _) _).trans (belowK_b (w := w) (Nat.le_refl _) _ D _ _ hD2 hK' rfl rfl)
  case stop =>
    rintro D cc pre W hD hpre ⟨⟨⟨rfl, hx⟩, hv⟩, hB⟩ hK
    have HC := Lib.hid (HBc.out pre hpre hx)
    have HV := Lib.hid hv
    have HB := Lib.hid hB
    have HK := Lib.hid hK
    have hD2 : w.heap.size ≤ D := Nat.le_trans HB0.out.size hD
    clear hx hpre hB hD hK hv
    gi_wp2_with fail
    refine ⟨by simp, .inl ⟨_, _, rfl, run_takeDeferred HK.out, ?_⟩⟩
    have hc5 := cell_kept HV.out.cell (grownBy_putObj' _ D (.deferred none)) (fun r e => by cases e; exact ⟨_, HK.out, rfl⟩)
    refine ⟨.int .i64 12, by simp [results, Try.f19, go_sem, hc5], ret_int HC.out.symm, ?_⟩
    exact HB.out.trans (belowK_b (w := w) (Nat.le_refl _) _ D _ _ hD2 HK.out rfl rfl)
theorem check_any (s : ByteArray) (hs : s.size ≤ 100000) (w : World) (hl : Len w) :
    Calls Try.prog 19 #[.string s] w fun e w' => e = .returned (.int .i64 (chk (lA s))) ∧ Below w.heap.size w w' := by
  by_cases h : 4000 < s.size ∨ 39 < (lA s).count 47
  · exact check_early s hs h w
  · exact check_loop s hs (fun e => h (.inl e)) (fun e => h (.inr e)) w hl
theorem check_v (s : ByteArray) (hs : s.size ≤ 100000) (c : Int) (hc : chk (lA s) = c) (w : World) (hl : Len w) :
    Calls Try.prog 19 #[.string s] w fun e w' => e = .returned (.int .i64 c) ∧ Below w.heap.size w w' := by
  subst hc; exact check_any s hs w hl
end Go.Proofs.Ytjladbgidodhbaa
