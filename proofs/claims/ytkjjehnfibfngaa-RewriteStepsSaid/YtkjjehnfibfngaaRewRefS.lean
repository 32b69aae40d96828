/-
  What the reference's Step hands back.
-/
import Derived.Test.YtkjjehnfibfngaaRewRefM
import Derived.Test.YtkjjehnfibfngaaRewRefG
import Derived.Test.YtkjjehnfibfngaaWordTwinB
import Derived.Deep.RegionHeld3
namespace Go.Proofs.Ytkjjehnfibfngaa
open Go.RowKit
open WM RM
set_option linter.unusedVariables false
set_option linter.unusedSimpArgs false

theorem st_chain {X Y Z : World} (h : Below X.heap.size X Y) (h2 : Below Y.heap.size Y Z) : Below X.heap.size X Z := h.trans (h2.mono h.size)
theorem st_keep2 {W w' : World} {b c : Nat} (h1 : b < W.heap.size) (h2 : c < W.heap.size) (hb : Below W.heap.size W w') : (∀ o, w'.cell? ⟨b, o, none⟩ = W.cell? ⟨b, o, none⟩) ∧ (∀ o, w'.cell? ⟨c, o, none⟩ = W.cell? ⟨c, o, none⟩) :=
  ⟨fun o => hb.cell (p := ⟨b, o, none⟩) h1, fun o => hb.cell (p := ⟨c, o, none⟩) h2⟩
theorem own_sl {w : World} {base n size : Nat} {e : TypeId} {v : Value} {xs : List Value} (h : w.ownsRow base e size v n xs) : ∃ p c, v = .slice p n c := by
  rcases h.2 with ⟨h1, h2⟩ | ⟨g, cap, cur, h1, _⟩
  · exact ⟨none, 0, by rw [h1, h2]⟩
  · exact ⟨_, _, h1⟩
theorem mods_at1 {w : World} {b off len cap c2 : Nat} {l : List Md} (h : Mods w (.slice (some ⟨b, off, none⟩) len cap) l) {k : Nat} (hk : k < l.length) : Mods w (.slice (some ⟨b, off + k * 2, none⟩) 1 c2) [l[k]] := by
  cases h with
  | none _ _ => simp at hk
  | some _ _ _ _ hpos hb hx =>
    refine .some b (off + k * 2) c2 [l[k]] (by simp) hb fun i hi => ?_
    have : i = 0 := by simp at hi; omega
    subst this
    obtain ⟨h1, v, h2, h3, h4⟩ := hx k hk
    exact ⟨by simpa using h1, v, by simpa using h2, h3, h4⟩
theorem modFr_of_own {w : World} {base : Nat} {v : Value} {l : List Md} {vs : List Value} (h : ModOwn w base v l vs) : ModFr w base v l vs :=
  ⟨h.len, h.row, fun k hk hk2 => ⟨(h.args k hk hk2).own, .inr (h.args k hk hk2).apart⟩⟩
theorem stepL_snoc {l : List Rw} {w : List Md} {k : Nat} (hk : k < w.length) {d : List Md} (h : stepL l (w.take k) = some d) : stepL l (w.take (k + 1)) = (succM l w[k]).map (d ++ ·) := by
  rw [List.take_succ_eq_append_getElem hk, stepL_app, h, stepL_one]
  cases succM l w[k] <;> rfl
theorem stepL_stop {l : List Rw} {w : List Md} {k : Nat} (hk : k < w.length) {d : List Md} (h : stepL l (w.take k) = some d) (hn : succM l w[k] = none) : stepL l w = none := by
  have h1 : stepL l (w.take (k + 1)) = none := by rw [stepL_snoc hk h, hn]; rfl
  have e : w = w.take (k + 1) ++ w.drop (k + 1) := (List.take_append_drop _ _).symm
  rw [e, stepL_app, h1]
theorem succ_self {l : List Rw} {m : Md} (h : first l m < 0) : succM l m = some [m] := by unfold succM; rw [dif_neg (by omega)]
theorem succ_made {l : List Rw} {m : Md} {k : Nat} (h : first l m = (k : Int)) (hk : k < l.length) : succM l m = made l[k] m := by
  unfold succM
  rw [dif_pos (by omega)]
  have : (first l m).toNat = k := by omega
  rw [this, List.getElem?_eq_getElem hk]
theorem first_fit {l : List Rw} {m : Md} : ∀ {k : Nat}, first l m = (k : Int) → ∃ hk : k < l.length, fitB l[k] m = true := by
  have key : ∀ (l : List Rw) (i : Int) (k : Nat), firstF l m i = i + k → 0 ≤ i → ∃ hk : k < l.length, fitB l[k] m = true := by
    intro l
    induction l with
    | nil => intro i k h h0; simp [firstF] at h; omega
    | cons r l ih =>
      intro i k h h0
      unfold firstF at h
      by_cases hf : fitB r m = true
      · rw [if_pos hf] at h
        obtain rfl : k = 0 := by omega
        exact ⟨by simp, hf⟩
      · rw [if_neg hf] at h
        cases k with
        | zero =>
          exfalso
          rcases firstF_rng l m (i + 1) with h2 | ⟨h2, _⟩
          · omega
          · omega
        | succ k =>
          obtain ⟨hk, h3⟩ := ih (i + 1) k (by omega) (by omega)
          exact ⟨by simp; omega, by simpa using h3⟩
  intro k h
  exact key l 0 k (by unfold first at h; omega) (by omega)
theorem fit_ar {r : Rw} {m : Md} (h : fitB r m = true) : r.ar = (m.a.length : Int) := by
  unfold fitB at h
  simp only [Bool.and_eq_true, decide_eq_true_eq] at h
  exact h.1.2
theorem rule_forms {r : Rw} (h : ruleB r = true) : ∀ s ∈ r.out, ∀ f ∈ s.a, formB f r.ar = true := by
  unfold ruleB at h
  simp only [Bool.and_eq_true] at h
  intro s hs f hf
  have h1 := List.all_eq_true.1 h.1.2 s hs
  unfold shB at h1
  simp only [Bool.and_eq_true] at h1
  exact List.all_eq_true.1 h1.2 f hf
theorem chk_fine1 {l : List Md} (h : chk l = 0) {k : Nat} (hk : k < l.length) : fineB l[k] = true := List.all_eq_true.1 (chk_zero.1 h).2.1 _ (List.getElem_mem hk)
theorem st_rules {l : List Rw} {w : List Md} (h : rchk l ≠ 0) : stC l w = rchk l ∧ stL l w = [] := by
  have e : stC l w = rchk l := by unfold stC; rw [if_pos h]
  exact ⟨e, by unfold stL; rw [e, if_neg h]⟩
theorem st_word {l : List Rw} {w : List Md} (h : rchk l = 0) (h2 : chk w ≠ 0) : stC l w = chk w ∧ stL l w = [] := by
  have e : stC l w = chk w := by unfold stC; rw [if_neg (by simp [h]), if_pos h2]
  exact ⟨e, by unfold stL; rw [e, if_neg h2]⟩
theorem st_none {l : List Rw} {w : List Md} (h : rchk l = 0) (h2 : chk w = 0) (h3 : stepL l w = none) : stC l w = 16 ∧ stL l w = [] := by
  have e : stC l w = 16 := by unfold stC; rw [if_neg (by simp [h]), if_neg (by simp [h2]), h3]
  exact ⟨e, by unfold stL; rw [e]; rfl⟩
theorem st_many {l : List Rw} {w d : List Md} (h : rchk l = 0) (h2 : chk w = 0) (h3 : stepL l w = some d) (h4 : 2000 < d.length) : stC l w = 4 ∧ stL l w = [] := by
  have e : stC l w = 4 := by unfold stC; rw [if_neg (by simp [h]), if_neg (by simp [h2]), h3]; simp [h4]
  exact ⟨e, by unfold stL; rw [e]; rfl⟩
theorem st_ok {l : List Rw} {w d : List Md} (h : rchk l = 0) (h2 : chk w = 0) (h3 : stepL l w = some d) (h4 : ¬ 2000 < d.length) : stC l w = 0 ∧ stL l w = d := by
  have e : stC l w = 0 := by unfold stC; rw [if_neg (by simp [h]), if_neg (by simp [h2]), h3]; simp; omega
  exact ⟨e, by unfold stL; rw [e, h3]; rfl⟩
/-- How Step ends. -/
def RsEnd (l : List Rw) (wd : List Md) (w : World) (e : Ending) (w' : World) : Prop := ∃ v vs, e = .returned (.tuple #[v, .int .i64 (stC l wd)]) ∧ Below w.heap.size w w' ∧ ModFr w' w.heap.size v (stL l wd) vs
/-- Where the loop stands. -/
structure SAt (w : World) (l : List Rw) (wd : List Md) (k : Nat) (v : Value) (wr : World) : Prop where
  hi : k ≤ wd.length
  below : Below w.heap.size w wr
  own : ∃ d vs, stepL l (wd.take k) = some d ∧ d.length ≤ 20 * k ∧ ModFr wr w.heap.size v d vs
theorem sAt_start (w : World) (l : List Rw) (wd : List Md) : SAt w l wd 0 (.slice none 0 0) w := ⟨Nat.zero_le _, Below.refl _ _, [], [], rfl, by simp, modFr_nil _ _⟩
set_option maxRecDepth 100000 in
set_option maxHeartbeats 6400000 in
theorem refstep_any (KF : FineR) (v : Value) (l : List Rw) (hmax : l.length ≤ 9223372036854775807) (hs : ∀ r ∈ l, RwSm r) (p2 : Option Addr) (cap2 : Nat) (wd : List Md) (hlc : wd.length ≤ cap2) (hwl : wd.length ≤ 2100) (hwa : ∀ m ∈ wd, m.a.length ≤ 10) (w : World) (hv : Rws w v l) (hw : Mods w (.slice p2 wd.length cap2) wd) :
    Calls Try.prog 15 #[v, .slice p2 wd.length cap2] w (RsEnd l wd w) := by
  obtain ⟨p, cap, rfl⟩ := hv.slice
  have HV := Lib.hid hv
  have HW := Lib.hid hw
  have KC := Lib.hid (fun w h => refcheck_any KF (.slice p l.length cap) l hmax hs w h)
  have KW := Lib.hid (fun w h => check_any (.slice p2 wd.length cap2) wd hwl hwa w h)
  have HS := Lib.hid hs
  have HWA := Lib.hid hwa
  clear hv hw hs hwa
  by_cases h0 : rchk l = 0
  · obtain ⟨r1, r2⟩ := rchk_zero h0
    have H0 := Lib.hid h0
    rw [h0] at KC
    by_cases h1 : chk wd = 0
    · have H1 := Lib.hid h1
      rw [h1] at KW
      have hsm : wd.length ≤ 2000 := (chk_zero.1 h1).1
      have HRl := Lib.hid r2
      have HMn := Lib.hid (many_no r1)
      have S0 := Lib.hid (sAt_start w l wd)
      have KT := Lib.hid (fun (m : Md) (mv : Value) hm w h h' => reffirst_any (.slice p l.length cap) l m mv hmax (fun r hr => ⟨rule_guards (r2 r hr).1, by have := (HS.out r hr).1; omega⟩) hm w h h')
      obtain ⟨j0, hj, hy0, hy1, hy2⟩ := info_parts info_mod
      have HM : Hid (maxLen = 9223372036854775807) := Lib.hid rfl
      clear h0 h1 r1 r2
      go_enter Try.func15, Try.ntmps15
      go_wp2_with fail
      refine (KC.out _ HV.out).mono ?_
      rintro e w1 ⟨rfl, hb⟩
      have B1 := Lib.hid hb
      clear hb
      go_wp2_with fail
      refine (KW.out _ (HW.out.later B1.out)).mono ?_
      rintro e w2 ⟨rfl, hb⟩
      have B2 := Lib.hid (B1.out.trans (hb.mono B1.out.size))
      have S2 : Hid (SAt w l wd 0 (.slice none 0 0) w2) := Lib.hid ⟨Nat.zero_le _, B2.out, [], [], rfl, by simp, modFr_nil _ _⟩
      clear hb
      go_wp2_with fail
      go_loopw [6, 7] (fun v i wr => ∃ k, i = .int .i64 (k : Nat) ∧ SAt w l wd k v wr) (fun _ i _ => wd.length - (intOf i).toNat)
      case atStart => exact ⟨0, rfl, S2.out⟩
      case round =>
        obtain ⟨k, rfl, hS⟩ := hrel
        have HSt := Lib.hid hS
        have hsz := hS.below.size
        have hkl := hS.hi
        obtain ⟨d, vs, hd, hdl, hm⟩ := hS.own
        have HD := Lib.hid hd
        have HMF := Lib.hid hm
        clear hS hd hm
        by_cases hlt : k < wd.length
        · obtain ⟨b, off, cap', q, qc, hp, e0, e1, hin, lb⟩ := (HW.out.later HSt.out.below).at hlt
          obtain rfl : p2 = some ⟨b, off, none⟩ := by cases hp; rfl
          have k1 : (k : Int) < (wd.length : Int) := by omega
          have k5 : (k : Int) + 1 ≤ (cap2 : Int) := by omega
          have k6 : cap2 - k ≠ 0 := by omega
          have HIn := Lib.hid hin
          have hfi := chk_fine1 H1.out hlt
          have HFi := Lib.hid hfi
          have KT1 := Lib.hid (KT.out wd[k] (.slice q wd[k].a.length qc) hfi wr (HV.out.later HSt.out.below) hin)
          obtain ⟨z, hz⟩ : ∃ z, first l wd[k] = z := ⟨_, rfl⟩
          have HZ := Lib.hid hz
          rw [hz] at KT1
          clear hp hin hfi hz
          go_wp2_with fail
          refine KT1.out.mono ?_
          rintro e w3 ⟨rfl, hb⟩
          have B3 := Lib.hid hb
          have D3 := Lib.hid (HSt.out.below.trans (hb.mono hsz))
          clear hb
          by_cases hz0 : z < 0
          · have HSu := Lib.hid (stepL_snoc hlt HD.out)
            rw [succ_self (by rw [HZ.out]; exact hz0)] at HSu
            have HSu2 : Hid (stepL l (wd.take (k + 1)) = some (d ++ [wd[k]])) := Lib.hid HSu.out
            have hwk := HWA.out _ (List.getElem_mem hlt)
            have KTw := Lib.hid (twin_any (.slice (some ⟨b, off + k * 2, none⟩) 1 (cap2 - k)) [wd[k]] (by simp) (by simpa using hwk) w3 (mods_at1 (HW.out.later D3.out) hlt))
            clear HSu hwk
            generalize hms : [wd[k]] = ms at KTw HSu2
            have hml : ms.length ≤ 1 := by rw [← hms]; exact Nat.le_refl _
            clear hms
            go_wp2_with fail
            refine KTw.out.mono ?_
            rintro e w4 ⟨mv, mvs, rfl, hb, hmo⟩
            have E3 := Lib.hid (B3.out.trans (hb.mono B3.out.size))
            have M2 := Lib.hid ((modFr_of_own hmo).mono B3.out.size)
            clear hb hmo
            have HS5 := Lib.hid (HSt.out.below.trans (E3.out.mono hsz))
            have H1r := Lib.hid ((HMF.out.later E3.out).row)
            rcases j_slice M2.out with ⟨rfl, hb0⟩ | ⟨ad, c, rfl⟩
            · have HT : Hid (SAt w l wd (k + 1) u6 w4) := Lib.hid ⟨hlt, HS5.out, d, vs, by rw [HSu2.out, hb0, List.append_nil], by omega, HMF.out.later E3.out⟩
              clear hb0
              go_wp2_with (at_builtin; refine j_append_nil rfl _ _ 39 rfl w.heap.size 27 j0 2 Try.underlying39 hj u6 d.length (modC d vs) rfl H1r.out rfl ?_)
              go_wp2_with fail
              go_roundw
              case rel => exact ⟨k + 1, by go_num, HT.out⟩
              case measure => simp [intOf]; omega
            · have H3 := Lib.hid (j_cells M2.out).2
              have H4 := Lib.hid (j_one M2.out)
              have hzz := E3.out.size
              go_wp2_with (at_builtin; refine wpList_append_own_at _ rfl _ _ 39 rfl w.heap.size 27 j0 (.agg #[.int .u8 0, .slice none 0 0]) 2 32 Try.underlying39 hj hy0 hy1 hy2 rfl (by decide) u6 d.length (modC d vs) rfl H1r.out ad (ms).length c (modC (ms) mvs) rfl (modC_length _ _ M2.out.len.symm) H3.out H4.out (by rw [HM.out]; omega) (by omega) (by omega) ?_; intro v2 w5 ho2 hg2 hn2 hb2)
              have M3 := Lib.hid (modFr_join HMF.out E3.out M2.out hsz ho2 hg2 hb2)
              have hvl := owns_lt HMF.out.row
              have B6 := Lib.hid (HS5.out.grown hg2 HS5.out.size (fun j e => (hvl j e).1))
              have HT : Hid (SAt w l wd (k + 1) v2 w5) := Lib.hid ⟨hlt, B6.out, d ++ ms, vs ++ mvs, HSu2.out, by rw [List.length_append]; omega, M3.out⟩
              clear ho2 hg2 hn2 hb2 hvl
              go_wp2_with fail
              go_roundw
              case rel => exact ⟨k + 1, by go_num, HT.out⟩
              case measure => simp [intOf]; omega
          · obtain ⟨kk, hkk⟩ : ∃ kk : Nat, z = (kk : Int) := ⟨z.toNat, by omega⟩
            subst hkk
            obtain ⟨hkl2, hfit⟩ := first_fit HZ.out
            have HSu := Lib.hid (stepL_snoc hlt HD.out)
            rw [succ_made HZ.out hkl2] at HSu
            obtain ⟨b3, off3, cap3, g, gc, o, oc, hp3, lb3, hat⟩ := (HV.out.later D3.out).at hkl2
            obtain rfl : p = some ⟨b3, off3, none⟩ := by cases hp3; rfl
            have k7 : (kk : Int) < (l.length : Int) := by omega
            have k8 : ¬ ((kk : Int) < 0) := by omega
            have f0 := (B3.out.cell (p := ⟨b, off + k * 2, none⟩) lb).trans e0
            have f1 := (B3.out.cell (p := ⟨b, off + k * 2 + 1, none⟩) lb).trans e1
            have LB3 : Hid (b3 < w3.heap.size) := Lib.hid lb3
            have LB : Hid (b < w3.heap.size) := Lib.hid (Nat.lt_of_lt_of_le lb B3.out.size)
            have HF4 := Lib.hid (fit_ar hfit)
            have HRu := Lib.hid (HRl.out _ (List.getElem_mem hkl2)).1
            have HSm := Lib.hid (HS.out _ (List.getElem_mem hkl2))
            have HGs := Lib.hid hat.gs
            have HOs := Lib.hid hat.out
            have HI3 := Lib.hid (HIn.out.later B3.out)
            obtain ⟨x0, x1, x2, x3, x4, x5, x6, _, _⟩ := hat
            clear hp3 hfit
            have KM0 : Hid (∀ w', Below w3.heap.size w3 w' → Calls Try.prog 33 #[.agg #[.int .u8 l[kk].c.toNat, .int .i64 l[kk].ar, .int .u8 l[kk].l.toNat, .int .u8 l[kk].r.toNat, .slice g l[kk].gs.length gc, .int .i64 l[kk].wt, .slice o l[kk].out.length oc], .agg #[.int .u8 wd[k].c.toNat, .slice q wd[k].a.length qc]] w' (MdEnd l[kk] wd[k] w')) :=
              Lib.hid (fun w' hb => refmade_any l[kk] wd[k] _ _ _ HSm.out (by have := rule_forms HRu.out; rw [HF4.out] at this; exact this) HFi.out w' (HGs.out.later hb) (HOs.out.later hb) (HI3.out.later hb))
            cases hmd : made l[kk] wd[k] with
            | none =>
              have KMd : Hid (∀ w', Below w3.heap.size w3 w' → Calls Try.prog 33 #[.agg #[.int .u8 l[kk].c.toNat, .int .i64 l[kk].ar, .int .u8 l[kk].l.toNat, .int .u8 l[kk].r.toNat, .slice g l[kk].gs.length gc, .int .i64 l[kk].wt, .slice o l[kk].out.length oc], .agg #[.int .u8 wd[k].c.toNat, .slice q wd[k].a.length qc]] w' fun e w'' => e = .returned (.tuple #[.slice none 0 0, .bool false]) ∧ Below w'.heap.size w' w'') :=
                Lib.hid (fun w' hb => (KM0.out w' hb).mono (by
                  rintro e w'' ⟨hb2, ⟨_, rfl⟩ | ⟨v, vs, hy, _⟩⟩
                  · exact ⟨rfl, hb2⟩
                  · rw [hmd] at hy; simp at hy))
              rw [hmd] at HSu
              have HE : Hid (∀ w', Below w.heap.size w w' → RsEnd l wd w (.returned (.tuple #[.slice none 0 0, .int .i64 16])) w') := Lib.hid (fun w' hb => by
                have h5 := st_none H0.out H1.out (stepL_stop hlt HD.out (by rw [succ_made HZ.out hkl2]; exact hmd))
                exact ⟨_, [], by rw [h5.1], hb, by rw [h5.2]; exact modFr_nil _ _⟩)
              clear hmd
              go_wp2_with fail
              go_region_held3 (fun w' => (∀ o, w'.cell? ⟨b3, o, none⟩ = w3.cell? ⟨b3, o, none⟩) ∧ (∀ o, w'.cell? ⟨b, o, none⟩ = w3.cell? ⟨b, o, none⟩)) (exact st_keep2 LB3.out LB.out ((by with_reducible (repeat (first | exact Below.refl _ _ | refine st_chain ?_ (Hid.out (by assumption)) | refine st_chain ?_ ((Below.refl _ _).alloc (Nat.le_refl _) _) | refine st_chain ?_ (Below.refl _ _).drew))))) (first
                | (go_at_call 33; with_reducible refine (KMd.out _ ((by with_reducible (repeat (first | exact Below.refl _ _ | refine st_chain ?_ (Hid.out (by assumption)) | refine st_chain ?_ ((Below.refl _ _).alloc (Nat.le_refl _) _) | refine st_chain ?_ (Below.refl _ _).drew))))).mono ?_; intro e w' hend; obtain ⟨he, hb⟩ := hend; subst he; replace hb := Lib.hid hb))
              have hb3 : Below w3.heap.size w3 w' := (by with_reducible (repeat (first | exact Below.refl _ _ | refine st_chain ?_ (Hid.out (by assumption)) | refine st_chain ?_ ((Below.refl _ _).alloc (Nat.le_refl _) _) | refine st_chain ?_ (Below.refl _ _).drew)))
              have HF := Lib.hid (HE.out _ (D3.out.trans (hb3.mono D3.out.size)))
              clear hb3
              go_wp2_with fail
              go_ret2
              exact HF.out
            | some ms =>
              have hms : ms = l[kk].out.map (mkM · wd[k].a) := by
                unfold made at hmd
                split at hmd
                · exact (Option.some.inj hmd).symm
                · simp at hmd
              have hml : ms.length ≤ 20 := by
                rw [hms, List.length_map]
                exact (HMn.out.2 _ (List.getElem_mem hkl2)).2
              have KMd : Hid (∀ w', Below w3.heap.size w3 w' → Calls Try.prog 33 #[.agg #[.int .u8 l[kk].c.toNat, .int .i64 l[kk].ar, .int .u8 l[kk].l.toNat, .int .u8 l[kk].r.toNat, .slice g l[kk].gs.length gc, .int .i64 l[kk].wt, .slice o l[kk].out.length oc], .agg #[.int .u8 wd[k].c.toNat, .slice q wd[k].a.length qc]] w' fun e w'' => ∃ v vs, e = .returned (.tuple #[v, .bool true]) ∧ Below w'.heap.size w' w'' ∧ ModFr w'' w3.heap.size v ms vs) :=
                Lib.hid (fun w' hb => (KM0.out w' hb).mono (by
                  rintro e w'' ⟨hb2, ⟨hno, _⟩ | ⟨v, vs, hy, rfl, hm2⟩⟩
                  · rw [hmd] at hno; simp at hno
                  · exact ⟨v, vs, rfl, hb2, by rw [hms]; exact hm2.mono hb.size⟩))
              rw [hmd] at HSu
              have HSu2 : Hid (stepL l (wd.take (k + 1)) = some (d ++ ms)) := Lib.hid HSu.out
              clear hmd hms HSu
              go_wp2_with fail
              go_region_held3 (fun w' => (∀ o, w'.cell? ⟨b3, o, none⟩ = w3.cell? ⟨b3, o, none⟩) ∧ (∀ o, w'.cell? ⟨b, o, none⟩ = w3.cell? ⟨b, o, none⟩)) (exact st_keep2 LB3.out LB.out ((by with_reducible (repeat (first | exact Below.refl _ _ | refine st_chain ?_ (Hid.out (by assumption)) | refine st_chain ?_ ((Below.refl _ _).alloc (Nat.le_refl _) _) | refine st_chain ?_ (Below.refl _ _).drew))))) (first
                | (go_at_call 33; with_reducible refine (KMd.out _ ((by with_reducible (repeat (first | exact Below.refl _ _ | refine st_chain ?_ (Hid.out (by assumption)) | refine st_chain ?_ ((Below.refl _ _).alloc (Nat.le_refl _) _) | refine st_chain ?_ (Below.refl _ _).drew))))).mono ?_; intro e w' hend; obtain ⟨mv, mvs, he, hb, hmm⟩ := hend; subst he; replace hb := Lib.hid hb; replace hmm := Lib.hid hmm))
              have hb3 : Below w3.heap.size w3 w' := (by with_reducible (repeat (first | exact Below.refl _ _ | refine st_chain ?_ (Hid.out (by assumption)) | refine st_chain ?_ ((Below.refl _ _).alloc (Nat.le_refl _) _) | refine st_chain ?_ (Below.refl _ _).drew)))
              have E3 := Lib.hid (B3.out.trans (hb3.mono B3.out.size))
              have M2 := Lib.hid (hmm.out.mono B3.out.size)
              clear hb hmm hb3
              have HS5 := Lib.hid (HSt.out.below.trans (E3.out.mono hsz))
              have H1r := Lib.hid ((HMF.out.later E3.out).row)
              rcases j_slice M2.out with ⟨rfl, hb0⟩ | ⟨ad, c, rfl⟩
              · have HT : Hid (SAt w l wd (k + 1) u6 w') := Lib.hid ⟨hlt, HS5.out, d, vs, by rw [HSu2.out, hb0, List.append_nil], by omega, HMF.out.later E3.out⟩
                clear hb0
                go_wp2_with (at_builtin; refine j_append_nil rfl _ _ 39 rfl w.heap.size 27 j0 2 Try.underlying39 hj u6 d.length (modC d vs) rfl H1r.out rfl ?_)
                go_wp2_with fail
                go_roundw
                case rel => exact ⟨k + 1, by go_num, HT.out⟩
                case measure => simp [intOf]; omega
              · have H3 := Lib.hid (j_cells M2.out).2
                have H4 := Lib.hid (j_one M2.out)
                have hzz := E3.out.size
                go_wp2_with (at_builtin; refine wpList_append_own_at _ rfl _ _ 39 rfl w.heap.size 27 j0 (.agg #[.int .u8 0, .slice none 0 0]) 2 32 Try.underlying39 hj hy0 hy1 hy2 rfl (by decide) u6 d.length (modC d vs) rfl H1r.out ad (ms).length c (modC (ms) mvs) rfl (modC_length _ _ M2.out.len.symm) H3.out H4.out (by rw [HM.out]; omega) (by omega) (by omega) ?_; intro v2 w5 ho2 hg2 hn2 hb2)
                have M3 := Lib.hid (modFr_join HMF.out E3.out M2.out hsz ho2 hg2 hb2)
                have hvl := owns_lt HMF.out.row
                have B6 := Lib.hid (HS5.out.grown hg2 HS5.out.size (fun j e => (hvl j e).1))
                have HT : Hid (SAt w l wd (k + 1) v2 w5) := Lib.hid ⟨hlt, B6.out, d ++ ms, vs ++ mvs, HSu2.out, by rw [List.length_append]; omega, M3.out⟩
                clear ho2 hg2 hn2 hb2 hvl
                go_wp2_with fail
                go_roundw
                case rel => exact ⟨k + 1, by go_num, HT.out⟩
                case measure => simp [intOf]; omega
        · obtain rfl : k = wd.length := by omega
          have k1 : ¬ (wd.length : Int) < (wd.length : Int) := by omega
          rw [List.take_length] at HD
          obtain ⟨pu, cu, rfl⟩ := own_sl HMF.out.row
          by_cases h4 : 2000 < d.length
          · have c4 : (2000 : Int) < (d.length : Int) := by omega
            have HE : Hid (RsEnd l wd w (.returned (.tuple #[.slice none 0 0, .int .i64 4])) wr) := Lib.hid (by
              have h5 := st_many H0.out H1.out HD.out h4
              exact ⟨_, [], by rw [h5.1], HSt.out.below, by rw [h5.2]; exact modFr_nil _ _⟩)
            go_wp2_with fail
            go_ret2
            exact HE.out
          · have c4 : ¬ (2000 : Int) < (d.length : Int) := by omega
            have HE : Hid (RsEnd l wd w (.returned (.tuple #[.slice pu d.length cu, .int .i64 0])) wr) := Lib.hid (by
              have h5 := st_ok H0.out H1.out HD.out h4
              exact ⟨_, vs, by rw [h5.1], HSt.out.below, by rw [h5.2]; exact HMF.out⟩)
            go_wp2_with fail
            go_ret2
            exact HE.out
    · have HE : Hid (∀ w', Below w.heap.size w w' → RsEnd l wd w (.returned (.tuple #[.slice none 0 0, .int .i64 (chk wd)])) w') := Lib.hid (fun w' hb => ⟨_, [], by rw [(st_word h0 h1).1], hb, by rw [(st_word h0 h1).2]; exact modFr_nil _ _⟩)
      obtain ⟨c, hc⟩ : ∃ c, chk wd = c := ⟨_, rfl⟩
      rw [hc] at KW HE h1
      have h2 : (c != 0) = true := by rw [bne_iff_ne]; exact h1
      clear h0 h1 hc r1 r2
      go_enter Try.func15, Try.ntmps15
      go_wp2_with fail
      refine (KC.out _ HV.out).mono ?_
      rintro e w1 ⟨rfl, hb⟩
      have B1 := Lib.hid hb
      clear hb
      go_wp2_with fail
      refine (KW.out _ (HW.out.later B1.out)).mono ?_
      rintro e w2 ⟨rfl, hb⟩
      have B2 := Lib.hid (B1.out.trans (hb.mono B1.out.size))
      clear hb
      go_wp2_with fail
      refine (KW.out _ (HW.out.later B2.out)).mono ?_
      rintro e w3 ⟨rfl, hb⟩
      have B3 := Lib.hid (B2.out.trans (hb.mono B2.out.size))
      clear hb
      go_wp2_with fail
      go_ret2
      exact HE.out _ B3.out
  · have HE : Hid (∀ w', Below w.heap.size w w' → RsEnd l wd w (.returned (.tuple #[.slice none 0 0, .int .i64 (rchk l)])) w') := Lib.hid (fun w' hb => ⟨_, [], by rw [(st_rules h0).1], hb, by rw [(st_rules h0).2]; exact modFr_nil _ _⟩)
    obtain ⟨c, hc⟩ : ∃ c, rchk l = c := ⟨_, rfl⟩
    rw [hc] at KC HE h0
    have h2 : (c != 0) = true := by rw [bne_iff_ne]; exact h0
    clear h0 hc
    go_enter Try.func15, Try.ntmps15
    go_wp2_with fail
    refine (KC.out _ HV.out).mono ?_
    rintro e w1 ⟨rfl, hb⟩
    have B1 := Lib.hid hb
    clear hb
    go_wp2_with fail
    refine (KC.out _ (HV.out.later B1.out)).mono ?_
    rintro e w2 ⟨rfl, hb⟩
    have B2 := Lib.hid (B1.out.trans (hb.mono B1.out.size))
    clear hb
    go_wp2_with fail
    go_ret2
    exact HE.out _ B2.out
end Go.Proofs.Ytkjjehnfibfngaa
