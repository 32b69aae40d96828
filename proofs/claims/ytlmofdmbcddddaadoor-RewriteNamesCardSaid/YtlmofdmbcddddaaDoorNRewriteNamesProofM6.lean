/-
  Texts of the proof, merged: NRewPrF, NRewPrB, NRewPrV, NRewPrG.
-/
import Derived.Test.YtlmofdmbcddddaaDoorNRewriteNamesProofM5
import Derived.Test.YtlmofdmbcddddaaDoorNRewriteNamesProofM2
import Derived.Test.YtlmofdmbcddddaaDoorNRewriteNamesProofM3
namespace Go.Proofs.YtlmofdmbcddddaaDoor
open Go.RowKit
open WM RM
set_option linter.unusedVariables false
set_option linter.unusedSimpArgs false

set_option maxRecDepth 100000 in
set_option maxHeartbeats 3200000 in
theorem prfirst_any (v : Value) (l : List Rw) (m : Md) (mv : Value) (hmax : l.length ≤ 9223372036854775807) (hg : ∀ r ∈ l, r.gs.all (formB · r.ar) = true ∧ r.gs.length ≤ 9223372036854775807) (hm : fineB m = true) (w : World) (hv : Rws w v l) (hmv : Ints w mv m.a) :
    Calls Tryd.prog 21 #[v, .agg #[.int .u8 m.c.toNat, mv]] w fun e w' => e = .returned (.int .i64 (first l m)) ∧ Below w.heap.size w w' := by
  obtain ⟨p, cap, rfl⟩ := hv.slice
  obtain ⟨p2, cap2, rfl⟩ := hmv.slice
  obtain ⟨m4, mr⟩ := fine_args4 hm
  have HMR := Lib.hid mr
  obtain ⟨W0, hW0⟩ : ∃ W, W = w.alloc (.cells #[.int .u8 m.c.toNat, .slice p2 m.a.length cap2] 25) := ⟨_, rfl⟩
  have N0 : W0.heap[w.heap.size]? = some (.cells #[.int .u8 m.c.toNat, .slice p2 m.a.length cap2] 25 (0, 0)) := by rw [hW0]; exact heap_alloc_new _ _
  have B0 : Below w.heap.size w W0 := by rw [hW0]; exact (Below.refl _ _).alloc (Nat.le_refl _) _
  have HB := Lib.hid B0
  have HV := Lib.hid (hv.later B0)
  have HM := Lib.hid (hmv.later B0)
  have q0 := cell_two0 N0
  have q1 := cell_two1 N0
  have l1 := lt_of_block N0
  have HG := Lib.hid hg
  clear N0 B0 hv hmv hg hm mr
  go_enter Tryd.func21, Tryd.ntmps21
  go_wp2_with fail
  rw [← hW0]
  clear hW0
  go_step3
  go_wp2_with fail
  go_step3
  go_wp2_with fail
  go_loopw [11] (fun i wr => ∃ k : Nat, k ≤ l.length ∧ i = .int .i64 k ∧ Below W0.heap.size W0 wr ∧ FAt l m k) (fun i _ => l.length - (intOf i).toNat)
  case atStart => exact ⟨0, Nat.zero_le _, rfl, Below.refl _ _, fAt_start l m⟩
  case round =>
    rename World => wo
    obtain ⟨k, hk, rfl, hb, hok⟩ := hrel
    have HK := Lib.hid hok
    have HBr := Lib.hid hb
    have hbz := hb.size
    have y0 := (hb.cell (p := ⟨w.heap.size, 0, none⟩) l1).trans q0
    have y1 := (hb.cell (p := ⟨w.heap.size, 1, none⟩) l1).trans q1
    have lo : w.heap.size < wo.heap.size := Nat.lt_of_lt_of_le l1 hbz
    clear hok hb
    by_cases hlt : k < l.length
    · obtain ⟨b, off, cap', g, gc, o, oc, hp, lb, hat⟩ := (HV.out.later HBr.out).at hlt
      obtain rfl : p = some ⟨b, off, none⟩ := by cases hp; rfl
      have k1 : (k : Int) < (l.length : Int) := by omega
      obtain ⟨g1, g2⟩ := HG.out _ (List.getElem_mem hlt)
      have HG1 := Lib.hid g1
      have HX := Lib.hid (HM.out.later HBr.out)
      have HGs := Lib.hid hat.gs
      obtain ⟨e0, e1, e2, e3, e4, e5, e6, _, _⟩ := hat
      obtain ⟨r, hr⟩ : ∃ r, l[k] = r := ⟨_, rfl⟩
      have HR := Lib.hid hr
      rw [hr] at e0 e1 e2 e3 e4 e5 e6 HGs HG1 g2
      obtain ⟨W1, hW1⟩ : ∃ W, W = wo.alloc (.cells #[.int .u8 r.c.toNat, .int .i64 r.ar, .int .u8 r.l.toNat, .int .u8 r.r.toNat, .slice g r.gs.length gc, .int .i64 r.wt, .slice o r.out.length oc] 31) := ⟨_, rfl⟩
      have N1 : W1.heap[wo.heap.size]? = some (.cells #[.int .u8 r.c.toNat, .int .i64 r.ar, .int .u8 r.l.toNat, .int .u8 r.r.toNat, .slice g r.gs.length gc, .int .i64 r.wt, .slice o r.out.length oc] 31 (0, 0)) := by rw [hW1]; exact heap_alloc_new _ _
      have b1 : Below wo.heap.size wo W1 := by rw [hW1]; exact (Below.refl _ _).alloc (Nat.le_refl _) _
      have E1 := Lib.hid b1
      have B1 := Lib.hid (HBr.out.trans (b1.mono hbz))
      have r0 : W1.cell? ⟨wo.heap.size, 0, none⟩ = some (.int .u8 r.c.toNat) := by simp [World.cell?, N1]
      have r1 : W1.cell? ⟨wo.heap.size, 1, none⟩ = some (.int .i64 r.ar) := by simp [World.cell?, N1]
      have r4 : W1.cell? ⟨wo.heap.size, 4, none⟩ = some (.slice g r.gs.length gc) := by simp [World.cell?, N1]
      have s0 := (B1.out.cell (p := ⟨w.heap.size, 0, none⟩) l1).trans q0
      have s1 := (B1.out.cell (p := ⟨w.heap.size, 1, none⟩) l1).trans q1
      have HGs1 := Lib.hid (HGs.out.later E1.out)
      have HNo : Hid (fitB r m = false → FAt l m (k + 1)) := Lib.hid (fun h => fAt_no hlt HK.out (by rw [HR.out]; exact h))
      have HYes : Hid (fitB r m = true → first l m = (k : Int)) := Lib.hid (fun h => fAt_yes hlt HK.out (by rw [HR.out]; exact h))
      clear hp hr N1 b1 g1
      generalize r.l.toNat = x2 at e2 hW1
      generalize r.r.toNat = x3 at e3 hW1
      generalize r.wt = x5 at e5 hW1
      generalize r.out.length = x6 at e6 hW1
      by_cases hc : r.c = m.c
      · have HC := Lib.hid hc
        have t1 : ((r.c.toNat : Int) != (m.c.toNat : Int)) = false := by rw [hc]; simp
        by_cases ha : r.ar = (m.a.length : Int)
        · have HA := Lib.hid ha
          have HA0 := Lib.hid ha
          have t2 : (r.ar != (m.a.length : Int)) = false := by rw [ha]; simp
          clear hc ha
          generalize r.c.toNat = ca at e0 r0 t1 hW1
          generalize m.c.toNat = cb at y0 s0 q0 t1
          generalize r.ar = ra at e1 r1 t2 hW1 HG1 HA
          obtain ⟨x4, hx4⟩ : ∃ x4, r.gs.length = x4 := ⟨_, rfl⟩
          have HX4 := Lib.hid hx4
          rw [hx4] at e4 r4 hW1
          go_wp2_with fail
          rw [← hW1]
          clear hW1
          go_wp2_with fail
          have l1w : w.heap.size < W1.heap.size := Nat.lt_of_lt_of_le l1 B1.out.size
          go_loopw [32] (fun i wr => ∃ j : Nat, j ≤ x4 ∧ i = .int .i64 j ∧ Below W1.heap.size W1 wr ∧ ∀ j', (hj : j' < r.gs.length) → j' < j → 0 ≤ worth r.gs[j'] m.a) (fun i _ => x4 - (intOf i).toNat)
          case atStart => exact ⟨0, Nat.zero_le _, rfl, Below.refl _ _, fun j _ h => by omega⟩
          case round =>
            rename World => wi
            obtain ⟨j, hj, rfl, hb, hok⟩ := hrel
            have HJ := Lib.hid hok
            have HBi := Lib.hid hb
            have hbi := hb.size
            have u1 := (hb.cell (p := ⟨w.heap.size, 1, none⟩) l1w).trans s1
            have li : w.heap.size < wi.heap.size := Nat.lt_of_lt_of_le l1w hbi
            have HBw : Hid (Below W0.heap.size W0 wi) := Lib.hid (B1.out.trans (hb.mono B1.out.size))
            clear hok hb
            by_cases hjl : j < r.gs.length
            · obtain ⟨bg, og, cg, q, d, hp, f0, f1, hin, lg⟩ := (HGs1.out.later HBi.out).at hjl
              obtain rfl : g = some ⟨bg, og, none⟩ := by cases hp; rfl
              have j1 : (j : Int) < (x4 : Int) := by omega
              have hf := List.all_eq_true.1 HG1.out _ (List.getElem_mem hjl)
              rw [HA.out] at hf
              obtain ⟨W2, hW2⟩ : ∃ W, W = wi.alloc (.cells #[.int .i64 r.gs[j].k, .slice q r.gs[j].cs.length d] 35) := ⟨_, rfl⟩
              have b2 : Below wi.heap.size wi W2 := by rw [hW2]; exact (Below.refl _ _).alloc (Nat.le_refl _) _
              have E2 := Lib.hid b2
              have KT := Lib.hid (total_any r.gs[j] m.a _ _ hf m4 HMR.out W2 (hin.later b2) (HM.out.later (HBw.out.trans (b2.mono HBw.out.size))))
              obtain ⟨z, hz⟩ : ∃ z, worth r.gs[j] m.a = z := ⟨_, rfl⟩
              have HZ := Lib.hid hz
              rw [hz] at KT
              generalize r.gs[j].k = fk at f0 hW2 KT
              generalize r.gs[j].cs.length = fl at f1 hW2 KT
              clear hp hin hf hz b2
              by_cases h0 : z < 0
              · have HN := Lib.hid (HNo.out (fit_neg hjl (by rw [HZ.out]; exact h0)))
                go_wp2_with fail
                rw [← hW2]
                clear hW2
                refine KT.out.mono ?_
                rintro e w5 ⟨rfl, hb⟩
                have HB5 := Lib.hid (HBw.out.trans ((E2.out.trans (hb.mono E2.out.size)).mono HBw.out.size))
                clear hb
                go_wp2_with fail
                go_roundw
                case rel => exact ⟨k + 1, by omega, by go_num, HB5.out, HN.out⟩
                case measure => simp [intOf]; omega
              · have HJ2 : Hid (∀ j', (hj : j' < r.gs.length) → j' < j + 1 → 0 ≤ worth r.gs[j'] m.a) := Lib.hid (fun j' hj h => by
                  rcases Nat.lt_or_eq_of_le (Nat.le_of_lt_succ h) with h1 | h1
                  · exact HJ.out j' hj h1
                  · subst h1; rw [HZ.out]; omega)
                go_wp2_with fail
                rw [← hW2]
                clear hW2
                refine KT.out.mono ?_
                rintro e w5 ⟨rfl, hb⟩
                have HB5 := Lib.hid (HBi.out.trans ((E2.out.trans (hb.mono E2.out.size)).mono HBi.out.size))
                clear hb
                go_wp2_with fail
                go_roundw
                case rel => exact ⟨j + 1, by omega, by go_num, HB5.out, HJ2.out⟩
                case measure => simp [intOf]; omega
            · have hje : j = x4 := by omega
              have j1 : ¬ (j : Int) < (x4 : Int) := by omega
              have HF := Lib.hid (HYes.out (fit_ok HC.out HA0.out (fun i hi => HJ.out i hi (by omega))))
              clear hje
              go_wp2_with fail
              try rw [Exit.noGoto_ret]
              go_ret
              exact ⟨ret_int HF.out.symm, HB.out.trans (HBw.out.mono HB.out.size)⟩
        · have t2 : (r.ar != (m.a.length : Int)) = true := by rw [bne_iff_ne]; exact ha
          have HN := Lib.hid (HNo.out (fit_len ha))
          clear hc ha
          generalize r.c.toNat = ca at e0 r0 t1 hW1
          generalize m.c.toNat = cb at y0 s0 q0 t1
          generalize r.ar = ra at e1 r1 t2 hW1
          generalize r.gs.length = x4 at e4 r4 hW1
          go_wp2_with fail
          rw [← hW1]
          clear hW1
          go_roundw
          case rel => exact ⟨k + 1, by omega, by go_num, B1.out, HN.out⟩
          case measure => simp [intOf]; omega
      · have t1 : ((r.c.toNat : Int) != (m.c.toNat : Int)) = true := by
          rw [bne_iff_ne]; intro h
          exact hc (UInt8.toNat_inj.1 (by omega))
        have HN := Lib.hid (HNo.out (fit_name hc))
        clear hc
        generalize r.c.toNat = ca at e0 r0 t1 hW1
        generalize m.c.toNat = cb at y0 s0 q0 t1
        generalize r.gs.length = x4 at e4 r4 hW1
        generalize r.ar = ra at e1 r1 hW1
        go_wp2_with fail
        rw [← hW1]
        clear hW1
        go_roundw
        case rel => exact ⟨k + 1, by omega, by go_num, B1.out, HN.out⟩
        case measure => simp [intOf]; omega
    · obtain rfl : k = l.length := by omega
      have HF := Lib.hid (fAt_end HK.out)
      go_wp2_with fail
      try rw [Exit.noGoto_ret]
      go_ret
      exact ⟨ret_int HF.out.symm, HB.out.trans (HBr.out.mono HB.out.size)⟩
end Go.Proofs.YtlmofdmbcddddaaDoor
namespace Go.Proofs.YtlmofdmbcddddaaDoor
open Go.RowKit
open WM RM
set_option linter.unusedVariables false
set_option linter.unusedSimpArgs false

/-- A word of one module in a new block. -/
theorem mods_new (w : World) (m : Md) (v : Value) (hv : Ints w v m.a) (hn : NilOr v) : Mods (w.alloc (.cells #[.int .u8 m.c.toNat, v] 25)) (.slice (some ⟨w.heap.size, 0, none⟩) 1 1) [m] := by
  have N0 := heap_alloc_new w (.cells #[.int .u8 m.c.toNat, v] 25)
  refine .some w.heap.size 0 1 [m] (by simp) (lt_of_block N0) fun i hi => ?_
  have h0 : i = 0 := by simpa using hi
  subst h0
  exact ⟨cell_two0 N0, v, cell_two1 N0, hv.later ((Below.refl _ _).alloc (Nat.le_refl _) _), hn⟩
set_option maxHeartbeats 800000 in
theorem pletter_any (c : UInt8) (w : World) : Calls Tryd.prog 22 #[.int .u8 c.toNat] w fun e w' => e = .returned (.bool (letB c && !(braB c))) ∧ Below w.heap.size w w' := by
  obtain ⟨W0, hW0⟩ : ∃ W, W = w.alloc (.cells #[.int .u8 c.toNat, .slice none 0 0] 25) := ⟨_, rfl⟩
  have B0 : Below w.heap.size w W0 := by rw [hW0]; exact (Below.refl _ _).alloc (Nat.le_refl _) _
  have HB := Lib.hid B0
  have hm : Mods W0 (.slice (some ⟨w.heap.size, 0, none⟩) 1 1) [⟨c, []⟩] := by rw [hW0]; exact mods_new w ⟨c, []⟩ (.slice none 0 0) (.none _ _) (.inl rfl)
  have K := Lib.hid (pcheck_any (.slice (some ⟨w.heap.size, 0, none⟩) 1 1) [⟨c, []⟩] (by simp) (by simp) W0 hm)
  have hc := chk_let c
  obtain ⟨x, hx⟩ : ∃ x, chk [⟨c, []⟩] = x := ⟨_, rfl⟩
  rw [hx] at K hc
  have HR : Hid ((x == 0) = (letB c && !(braB c))) := Lib.hid (by rw [← hc, Bool.eq_iff_iff, beq_iff_eq, decide_eq_true_iff])
  clear hm hc hx B0
  obtain ⟨cn, hcn⟩ : ∃ cn : Nat, c.toNat = cn := ⟨_, rfl⟩
  rw [hcn] at hW0 ⊢
  clear hcn
  go_enter Tryd.func22, Tryd.ntmps22
  go_wp2_with fail
  rw [← hW0]
  clear hW0
  refine K.out.mono ?_
  rintro e w1 ⟨rfl, hb⟩
  have B1 := Lib.hid (HB.out.trans (hb.mono HB.out.size))
  clear hb
  go_wp2_with fail
  go_ret
  exact ⟨ret_bool HR.out, B1.out⟩
/-- Where blank stands. -/
structure BlAt (w : World) (out : List Sh) (k : Nat) (v : Value) (wr : World) : Prop where
  hi : k ≤ out.length
  below : Below w.heap.size w wr
  own : ∃ vs, ModFr wr w.heap.size v ((out.take k).map blM) vs
theorem blAt_start (w : World) (out : List Sh) : BlAt w out 0 (.slice none 0 0) w := ⟨Nat.zero_le _, Below.refl _ _, [], by simpa using modFr_nil w w.heap.size⟩
theorem blAt_step {w wo X X4 : World} {out : List Sh} {k n0 : Nat} {v v2 u : Value} {vs : List Value} (hlt : k < out.length) (hT : BlAt w out k v wo) (hO : ModFr wo w.heap.size v ((out.take k).map blM) vs) (e : Below wo.heap.size wo X)
    (hz : X.ownsRow wo.heap.size 3 1 u n0 (valsL (List.replicate n0 0))) (hb : blM out[k] = zerM out[k].c n0) (ho : X4.ownsRow w.heap.size 25 2 v2 (k + 1) (modC ((out.take k).map blM) vs ++ [.int .u8 out[k].c.toNat, u]))
    (hg : X.grownBy X4 v.ownBlock) (h4 : v2.ownBlock = v.ownBlock ∨ v2.ownBlock = some X.heap.size) : BlAt w out (k + 1) v2 X4 := by
  have hl : ((out.take k).map blM).length = k := by rw [List.length_map, List.length_take]; omega
  have hsz := hT.below.size
  have z := e.size
  refine ⟨hlt, (hT.below.trans (e.mono hsz)).grown hg (by omega) (fun j ej => (owns_lt hO.row j ej).1), vs ++ [u], ?_⟩
  have em : (out.take (k + 1)).map blM = (out.take k).map blM ++ [zerM out[k].c n0] := by
    rw [List.take_succ_eq_append_getElem hlt, List.map_append, List.map_cons, List.map_nil, hb]
  rw [em]
  exact modFr_snoc (m := zerM out[k].c n0) hO hsz e (by simpa [zerM] using hz) (by rw [hl]; exact ho) hg h4
theorem zer_own (w : World) (n base : Nat) (hn : n ≤ 1000) (hb : base ≤ w.heap.size) : (w.alloc (.cells (zeros n) 3)).ownsRow base 3 1 (.slice (some ⟨w.heap.size, 0, none⟩) n n) n (valsL (List.replicate n 0)) := by
  have h := World.ownsRow_lit (base := base) (e := 3) (size := 1) w (zeros n) n hb (by have : maxLen = 9223372036854775807 := rfl; omega) (by rw [zeros_size, Nat.mul_one])
  have e : (zeros n).toList = valsL (List.replicate n 0) := by
    apply List.ext_getElem
    · simp [zeros_size, valsL]
    · intro i h1 h2
      have h3 : i < n := by simpa [zeros_size] using h1
      have := zeros_at h3
      rw [Array.getElem?_eq_some_iff] at this
      obtain ⟨_, h4⟩ := this
      simp [valsL, h4]
  rw [e] at h; exact h
set_option maxRecDepth 100000 in
set_option maxHeartbeats 1600000 in
theorem blank_any (out : List Sh) (v : Value) (hm : out.length ≤ 2000) (ha : ∀ s ∈ out, s.a.length ≤ 9223372036854775807) (w : World) (hv : Shs w v out) :
    Calls Tryd.prog 24 #[v] w fun e w' => ∃ v' vs, e = .returned v' ∧ Below w.heap.size w w' ∧ ModFr w' w.heap.size v' (out.map blM) vs := by
  obtain ⟨p, cap, rfl⟩ := hv.slice
  have HV := Lib.hid hv
  have HA := Lib.hid ha
  obtain ⟨j0, hj, hy0, hy1, hy2⟩ := info_parts info_mod
  have HM : Hid (maxLen = 9223372036854775807) := Lib.hid rfl
  have S0 := Lib.hid (blAt_start w out)
  clear hv ha
  go_enter Tryd.func24, Tryd.ntmps24
  go_wp2_with fail
  go_loopw [3, 9] (fun v i wr => ∃ k : Nat, i = .int .i64 k ∧ BlAt w out k v wr) (fun _ i _ => out.length - (intOf i).toNat)
  case atStart => exact ⟨0, rfl, S0.out⟩
  case round =>
    rename World => wo
    obtain ⟨k, rfl, hT⟩ := hrel
    have HT := Lib.hid hT
    have n1 := hT.hi
    have hsz := hT.below.size
    obtain ⟨vs, hO⟩ := hT.own
    have HO := Lib.hid hO
    clear hT hO
    by_cases hlt : k < out.length
    · obtain ⟨b, off, cap', q, c, hp, e1, e2, hin, lb⟩ := (HV.out.later (HT.out.below.mono (Nat.le_refl _))).at hlt
      obtain rfl : p = some ⟨b, off, none⟩ := by cases hp; rfl
      have k1 : (k : Int) < (out.length : Int) := by omega
      have hlk : ((out.take k).map blM).length = k := by rw [List.length_map, List.length_take]; omega
      have hal := HA.out _ (List.getElem_mem hlt)
      have HB1 : Hid (blM out[k] = zerM out[k].c (min out[k].a.length 5)) := Lib.hid rfl
      obtain ⟨W1, hW1⟩ : ∃ W, W = wo.alloc (.cells #[.int .u8 out[k].c.toNat, .slice q out[k].a.length c] 33) := ⟨_, rfl⟩
      have N1 : W1.heap[wo.heap.size]? = some (.cells #[.int .u8 out[k].c.toNat, .slice q out[k].a.length c] 33 (0, 0)) := by rw [hW1]; exact heap_alloc_new _ _
      have b1 : Below wo.heap.size wo W1 := by rw [hW1]; exact (Below.refl _ _).alloc (Nat.le_refl _) _
      have B1 := Lib.hid b1
      have q0 := cell_two0 N1
      have q1 := cell_two1 N1
      have l1 := lt_of_block N1
      have hrow := HO.out.row
      rw [hlk] at hrow
      have HR := Lib.hid (l_own_later hrow b1)
      have hvl := owns_lt hrow
      have HVl := Lib.hid hvl
      obtain ⟨cn, hcn⟩ : ∃ cn : Nat, out[k].c.toNat = cn := ⟨_, rfl⟩
      have HCn := Lib.hid hcn
      obtain ⟨al, hal2⟩ : ∃ al, out[k].a.length = al := ⟨_, rfl⟩
      rw [hcn] at e1 q0 hW1
      rw [hal2] at e2 q1 hW1 HB1 hal
      obtain ⟨n0, hn0⟩ : ∃ n0, min al 5 = n0 := ⟨_, rfl⟩
      have hmin : min (al : Int) 5 = (n0 : Int) := by omega
      rw [hn0] at HB1
      have hn5 : n0 ≤ 5 := by omega
      have hmk := made_run n0 (by omega)
      clear hp hin N1 b1 hcn hal2 hrow hvl hn0
      go_wp2_with fail
      rw [← hW1]
      clear hW1
      go_wp2_with fail
      obtain ⟨M, hM⟩ : ∃ M : Obj, M = .cells #[.int .u8 cn, .slice (some ⟨W1.heap.size, 0, none⟩) n0 n0] 25 := ⟨_, rfl⟩
      have P1 : Hid (((W1.alloc (.cells (zeros n0) 3)).alloc M).drew.ownsRow w.heap.size 25 2 u3 k (modC ((out.take k).map blM) vs)) := Lib.hid ((HR.out.alloc _).alloc _)
      have P2 : Hid (((W1.alloc (.cells (zeros n0) 3)).alloc M).drew.ownsRow wo.heap.size 3 1 (.slice (some ⟨W1.heap.size, 0, none⟩) n0 n0) n0 (valsL (List.replicate n0 0))) := Lib.hid ((zer_own W1 n0 wo.heap.size (by omega) B1.out.size).alloc M)
      have P3 : Hid (Below wo.heap.size wo ((W1.alloc (.cells (zeros n0) 3)).alloc M).drew) := Lib.hid ((B1.out.alloc B1.out.size _).alloc (by have := B1.out.size; simp; omega) _).drew
      rw [hM] at P1 P2 P3
      have hz := B1.out.size
      clear hM
      go_region_law? (first
          | (refine step_append_own _ rfl (.tmp 17) (.tmp 23) 41 rfl w.heap.size 25 j0 (.agg #[.int .u8 0, .slice none 0 0]) 2 32 Tryd.underlying41 hj hy0 hy1 hy2 rfl (by decide) u3 k (modC ((out.take k).map blM) vs) rfl P1.out ⟨W1.heap.size + 1, 0, none⟩ 1 1 [.int .u8 cn, .slice (some ⟨W1.heap.size, 0, none⟩) n0 n0] rfl rfl (fun j u h => by have h9 := two_new (W1.alloc (.cells (zeros n0) 3)) _ _ 25 j u h; simpa using h9) (by simp [Value.oneCell']) (by rw [HM.out]; omega) (by omega) (by simp; omega) ?_
             intro v2 w2 ho2 hg2 hn2 hb2))
      all_goals
        have T1 := Lib.hid (blAt_step hlt HT.out HO.out P3.out P2.out HB1.out (by rw [HCn.out]; exact ho2) hg2 hb2)
        clear ho2 hg2 hn2 hb2
        go_wp2_with fail
        go_roundw
        case rel => exact ⟨k + 1, by go_num, T1.out⟩
        case measure => simp [intOf]; omega
    · have hk : k = out.length := by omega
      have HX := Lib.hid hk
      have hm : ¬ (k : Int) < (out.length : Int) := by omega
      clear hk hlt
      go_wp2_with fail
      go_ret
      exact ⟨_, rfl, HT.out.below, vs, by have h9 := HO.out; rw [HX.out, List.take_length] at h9; exact h9⟩
end Go.Proofs.YtlmofdmbcddddaaDoor
namespace Go.Proofs.YtlmofdmbcddddaaDoor
open Go.RowKit
open WM RM
set_option linter.unusedVariables false
set_option linter.unusedSimpArgs false

theorem vb_let {r : Rw} (h : (letB r.c && !(braB r.c)) = false) : validB r = false := by unfold validB; rw [h]; simp
theorem vb_lo {r : Rw} (h : r.ar < 0) : validB r = false := by unfold validB; rw [decide_eq_false (by omega : ¬ 0 ≤ r.ar)]; simp
theorem vb_hi {r : Rw} (h : 4 < r.ar) : validB r = false := by unfold validB; rw [decide_eq_false (by omega : ¬ r.ar ≤ 4)]; simp
theorem vb_plain {r : Rw} (h : plainB r = false) : validB r = false := by unfold validB; rw [h]; simp
theorem vb_gs {r : Rw} (h : r.gs.all (formB · r.ar) = false) : validB r = false := by unfold validB; rw [h]; simp
theorem vb_chk {r : Rw} (h : chk (r.out.map blM) ≠ 0) : validB r = false := by unfold validB; rw [decide_eq_false h]; simp
theorem vb_out {r : Rw} {k : Nat} (hk : k < r.out.length) (h : r.out[k].a.all (formB · r.ar) = false) : validB r = false := by
  have : (r.out.all fun s => s.a.all (formB · r.ar)) = false := by
    rw [List.all_eq_false]; exact ⟨_, List.getElem_mem hk, by rw [h]; simp⟩
  unfold validB; rw [this]; simp
theorem vb_ok {r : Rw} (h1 : (letB r.c && !(braB r.c)) = true) (h2 : ¬ r.ar < 0) (h3 : ¬ 4 < r.ar) (h4 : plainB r = true) (h5 : r.gs.all (formB · r.ar) = true) (h6 : chk (r.out.map blM) = 0) (h7 : ∀ k, (hk : k < r.out.length) → r.out[k].a.all (formB · r.ar) = true) : validB r = true := by
  have : (r.out.all fun s => s.a.all (formB · r.ar)) = true := by
    rw [List.all_eq_true]
    intro x hx
    obtain ⟨j, hj, rfl⟩ := List.mem_iff_getElem.1 hx
    exact h7 j hj
  unfold validB
  rw [h1, h4, h5, this, decide_eq_true h6, decide_eq_true (by omega : 0 ≤ r.ar), decide_eq_true (by omega : r.ar ≤ 4)]
  rfl
set_option maxRecDepth 100000 in
set_option maxHeartbeats 6400000 in
theorem pvalid_any (r : Rw) (gv ov : Value) (hs : RwSm r) (w : World) (h1 : Fms w gv r.gs) (h2 : Shs w ov r.out) :
    Calls Tryd.prog 13 #[rwV r gv ov] w fun e w' => e = .returned (.bool (validB r)) ∧ Below w.heap.size w w' := by
  obtain ⟨pg, cg, rfl⟩ := h1.slice
  obtain ⟨po, co, rfl⟩ := h2.slice
  obtain ⟨s1, s2, s3, s4⟩ := hs
  unfold rwV
  obtain ⟨W0, hW0⟩ : ∃ W, W = w.alloc (.cells #[.int .u8 r.c.toNat, .int .i64 r.ar, .int .u8 r.l.toNat, .int .u8 r.r.toNat, .slice pg r.gs.length cg, .int .i64 r.wt, .slice po r.out.length co] 31) := ⟨_, rfl⟩
  have N1 : W0.heap[w.heap.size]? = some (.cells #[.int .u8 r.c.toNat, .int .i64 r.ar, .int .u8 r.l.toNat, .int .u8 r.r.toNat, .slice pg r.gs.length cg, .int .i64 r.wt, .slice po r.out.length co] 31 (0, 0)) := by rw [hW0]; exact heap_alloc_new _ _
  have B0 : Below w.heap.size w W0 := by rw [hW0]; exact (Below.refl _ _).alloc (Nat.le_refl _) _
  have HB := Lib.hid B0
  have HG := Lib.hid (h1.later B0)
  have HO := Lib.hid (h2.later B0)
  have q0 : W0.cell? ⟨w.heap.size, 0, none⟩ = some (.int .u8 r.c.toNat) := by simp [World.cell?, N1]
  have q1 : W0.cell? ⟨w.heap.size, 1, none⟩ = some (.int .i64 r.ar) := by simp [World.cell?, N1]
  have q2 : W0.cell? ⟨w.heap.size, 2, none⟩ = some (.int .u8 r.l.toNat) := by simp [World.cell?, N1]
  have q3 : W0.cell? ⟨w.heap.size, 3, none⟩ = some (.int .u8 r.r.toNat) := by simp [World.cell?, N1]
  have q4 : W0.cell? ⟨w.heap.size, 4, none⟩ = some (.slice pg r.gs.length cg) := by simp [World.cell?, N1]
  have q5 : W0.cell? ⟨w.heap.size, 5, none⟩ = some (.int .i64 r.wt) := by simp [World.cell?, N1]
  have q6 : W0.cell? ⟨w.heap.size, 6, none⟩ = some (.slice po r.out.length co) := by simp [World.cell?, N1]
  have l0 := lt_of_block N1
  have KL := Lib.hid (fun w => pletter_any r.c w)
  have KG := Lib.hid (fun (w : World) (h : Fms w (.slice pg r.gs.length cg) r.gs) => allformed_any r.gs (.slice pg r.gs.length cg) r.ar (by omega) (fun f hf => by have := s3 f hf; omega) w h)
  have KB := Lib.hid (fun (w : World) (h : Shs w (.slice po r.out.length co) r.out) => blank_any r.out (.slice po r.out.length co) (by omega) (fun s hs => by have := (s4 s hs).1; omega) w h)
  have KC := Lib.hid (fun (w : World) (v : Value) (h : Mods w v (r.out.map blM)) => pcheck_any v (r.out.map blM) (by rw [List.length_map]; omega) (fun m hm => by
    obtain ⟨s, _, rfl⟩ := List.mem_map.1 hm
    simp [blM, zerM]; omega) w h)
  have H4 := Lib.hid s4
  clear N1 B0 h1 h2
  cases hlt : (letB r.c && !(braB r.c)) with
  | false =>
    have HF := Lib.hid (vb_let hlt)
    rw [hlt] at KL
    clear hlt
    obtain ⟨cn, hcn⟩ : ∃ cn : Nat, r.c.toNat = cn := ⟨_, rfl⟩
    rw [hcn] at KL hW0 q0 ⊢
    clear hcn
    go_enter Tryd.func13, Tryd.ntmps13
    go_wp2_with fail
    rw [← hW0]
    clear hW0
    go_wp2_with fail
    refine (KL.out _).mono ?_
    rintro e w1 ⟨rfl, hb⟩
    have B1 := Lib.hid (HB.out.trans (hb.mono HB.out.size))
    have D1 := Lib.hid hb
    have y1 := (hb.cell (p := ⟨w.heap.size, 1, none⟩) l0).trans q1
    have y2 := (hb.cell (p := ⟨w.heap.size, 2, none⟩) l0).trans q2
    have y3 := (hb.cell (p := ⟨w.heap.size, 3, none⟩) l0).trans q3
    have y4 := (hb.cell (p := ⟨w.heap.size, 4, none⟩) l0).trans q4
    have y5 := (hb.cell (p := ⟨w.heap.size, 5, none⟩) l0).trans q5
    have y6 := (hb.cell (p := ⟨w.heap.size, 6, none⟩) l0).trans q6
    clear hb
    go_wp2_with fail
    go_ret
    exact ⟨ret_bool HF.out.symm, B1.out⟩
  | true =>
    have HL := Lib.hid hlt
    rw [hlt] at KL
    clear hlt
    obtain ⟨cn, hcn⟩ : ∃ cn : Nat, r.c.toNat = cn := ⟨_, rfl⟩
    rw [hcn] at KL hW0 q0 ⊢
    clear hcn
    by_cases a1 : r.ar < 0
    · have HF := Lib.hid (vb_lo a1)
      generalize r.ar = ar at a1 q1 hW0 KG ⊢
      go_enter Tryd.func13, Tryd.ntmps13
      go_wp2_with fail
      rw [← hW0]
      clear hW0
      go_wp2_with fail
      refine (KL.out _).mono ?_
      rintro e w1 ⟨rfl, hb⟩
      have B1 := Lib.hid (HB.out.trans (hb.mono HB.out.size))
      have D1 := Lib.hid hb
      have y1 := (hb.cell (p := ⟨w.heap.size, 1, none⟩) l0).trans q1
      have y2 := (hb.cell (p := ⟨w.heap.size, 2, none⟩) l0).trans q2
      have y3 := (hb.cell (p := ⟨w.heap.size, 3, none⟩) l0).trans q3
      have y4 := (hb.cell (p := ⟨w.heap.size, 4, none⟩) l0).trans q4
      have y5 := (hb.cell (p := ⟨w.heap.size, 5, none⟩) l0).trans q5
      have y6 := (hb.cell (p := ⟨w.heap.size, 6, none⟩) l0).trans q6
      clear hb
      go_wp2_with fail
      go_ret
      exact ⟨ret_bool HF.out.symm, B1.out⟩
    by_cases a2 : 4 < r.ar
    · have HF := Lib.hid (vb_hi a2)
      generalize r.ar = ar at a1 a2 q1 hW0 KG ⊢
      go_enter Tryd.func13, Tryd.ntmps13
      go_wp2_with fail
      rw [← hW0]
      clear hW0
      go_wp2_with fail
      refine (KL.out _).mono ?_
      rintro e w1 ⟨rfl, hb⟩
      have B1 := Lib.hid (HB.out.trans (hb.mono HB.out.size))
      have D1 := Lib.hid hb
      have y1 := (hb.cell (p := ⟨w.heap.size, 1, none⟩) l0).trans q1
      have y2 := (hb.cell (p := ⟨w.heap.size, 2, none⟩) l0).trans q2
      have y3 := (hb.cell (p := ⟨w.heap.size, 3, none⟩) l0).trans q3
      have y4 := (hb.cell (p := ⟨w.heap.size, 4, none⟩) l0).trans q4
      have y5 := (hb.cell (p := ⟨w.heap.size, 5, none⟩) l0).trans q5
      have y6 := (hb.cell (p := ⟨w.heap.size, 6, none⟩) l0).trans q6
      clear hb
      go_wp2_with fail
      go_ret
      exact ⟨ret_bool HF.out.symm, B1.out⟩
    by_cases a3 : r.l = 0
    rotate_left
    · have HF := Lib.hid (vb_plain (plain_l a3))
      have t3 := u8_nz a3
      clear a3
      generalize r.l.toNat = ln at q2 t3 hW0 ⊢
      go_enter Tryd.func13, Tryd.ntmps13
      go_wp2_with fail
      rw [← hW0]
      clear hW0
      go_wp2_with fail
      refine (KL.out _).mono ?_
      rintro e w1 ⟨rfl, hb⟩
      have B1 := Lib.hid (HB.out.trans (hb.mono HB.out.size))
      have D1 := Lib.hid hb
      have y1 := (hb.cell (p := ⟨w.heap.size, 1, none⟩) l0).trans q1
      have y2 := (hb.cell (p := ⟨w.heap.size, 2, none⟩) l0).trans q2
      have y3 := (hb.cell (p := ⟨w.heap.size, 3, none⟩) l0).trans q3
      have y4 := (hb.cell (p := ⟨w.heap.size, 4, none⟩) l0).trans q4
      have y5 := (hb.cell (p := ⟨w.heap.size, 5, none⟩) l0).trans q5
      have y6 := (hb.cell (p := ⟨w.heap.size, 6, none⟩) l0).trans q6
      clear hb
      go_wp2_with fail
      go_ret
      exact ⟨ret_bool HF.out.symm, B1.out⟩
    have t3 : ((r.l.toNat : Int) != 0) = false := by rw [a3]; rfl
    by_cases a4 : r.r = 0
    rotate_left
    · have HF := Lib.hid (vb_plain (plain_r a4))
      have t4 := u8_nz a4
      clear a4 a3
      generalize r.l.toNat = ln at q2 t3 hW0 ⊢
      generalize r.r.toNat = rn at q3 t4 hW0 ⊢
      go_enter Tryd.func13, Tryd.ntmps13
      go_wp2_with fail
      rw [← hW0]
      clear hW0
      go_wp2_with fail
      refine (KL.out _).mono ?_
      rintro e w1 ⟨rfl, hb⟩
      have B1 := Lib.hid (HB.out.trans (hb.mono HB.out.size))
      have D1 := Lib.hid hb
      have y1 := (hb.cell (p := ⟨w.heap.size, 1, none⟩) l0).trans q1
      have y2 := (hb.cell (p := ⟨w.heap.size, 2, none⟩) l0).trans q2
      have y3 := (hb.cell (p := ⟨w.heap.size, 3, none⟩) l0).trans q3
      have y4 := (hb.cell (p := ⟨w.heap.size, 4, none⟩) l0).trans q4
      have y5 := (hb.cell (p := ⟨w.heap.size, 5, none⟩) l0).trans q5
      have y6 := (hb.cell (p := ⟨w.heap.size, 6, none⟩) l0).trans q6
      clear hb
      go_wp2_with fail
      go_ret
      exact ⟨ret_bool HF.out.symm, B1.out⟩
    have t4 : ((r.r.toNat : Int) != 0) = false := by rw [a4]; rfl
    by_cases a5 : r.wt = 0
    rotate_left
    · have HF := Lib.hid (vb_plain (plain_w a5))
      have t5 : (r.wt != 0) = true := by rw [bne_iff_ne]; exact a5
      clear a5 a4 a3
      generalize r.l.toNat = ln at q2 t3 hW0 ⊢
      generalize r.r.toNat = rn at q3 t4 hW0 ⊢
      generalize r.wt = wt at q5 t5 hW0 ⊢
      go_enter Tryd.func13, Tryd.ntmps13
      go_wp2_with fail
      rw [← hW0]
      clear hW0
      go_wp2_with fail
      refine (KL.out _).mono ?_
      rintro e w1 ⟨rfl, hb⟩
      have B1 := Lib.hid (HB.out.trans (hb.mono HB.out.size))
      have D1 := Lib.hid hb
      have y1 := (hb.cell (p := ⟨w.heap.size, 1, none⟩) l0).trans q1
      have y2 := (hb.cell (p := ⟨w.heap.size, 2, none⟩) l0).trans q2
      have y3 := (hb.cell (p := ⟨w.heap.size, 3, none⟩) l0).trans q3
      have y4 := (hb.cell (p := ⟨w.heap.size, 4, none⟩) l0).trans q4
      have y5 := (hb.cell (p := ⟨w.heap.size, 5, none⟩) l0).trans q5
      have y6 := (hb.cell (p := ⟨w.heap.size, 6, none⟩) l0).trans q6
      clear hb
      go_wp2_with fail
      go_ret
      exact ⟨ret_bool HF.out.symm, B1.out⟩
    have t5 : (r.wt != 0) = false := by rw [a5]; rfl
    have HP := Lib.hid (plain_ok a3 a4 a5)
    clear a3 a4 a5
    generalize r.l.toNat = ln at q2 t3 hW0 ⊢
    generalize r.r.toNat = rn at q3 t4 hW0 ⊢
    generalize r.wt = wt at q5 t5 hW0 ⊢
    cases hgs : r.gs.all (formB · r.ar) with
    | false =>
      have HF := Lib.hid (vb_gs hgs)
      rw [hgs] at KG
      clear hgs
      go_enter Tryd.func13, Tryd.ntmps13
      go_wp2_with fail
      rw [← hW0]
      clear hW0
      go_wp2_with fail
      refine (KL.out _).mono ?_
      rintro e w1 ⟨rfl, hb⟩
      have B1 := Lib.hid (HB.out.trans (hb.mono HB.out.size))
      have D1 := Lib.hid hb
      have y1 := (hb.cell (p := ⟨w.heap.size, 1, none⟩) l0).trans q1
      have y2 := (hb.cell (p := ⟨w.heap.size, 2, none⟩) l0).trans q2
      have y3 := (hb.cell (p := ⟨w.heap.size, 3, none⟩) l0).trans q3
      have y4 := (hb.cell (p := ⟨w.heap.size, 4, none⟩) l0).trans q4
      have y5 := (hb.cell (p := ⟨w.heap.size, 5, none⟩) l0).trans q5
      have y6 := (hb.cell (p := ⟨w.heap.size, 6, none⟩) l0).trans q6
      clear hb
      go_wp2_with fail
      refine (KG.out _ (HG.out.later D1.out)).mono ?_
      rintro e w2 ⟨rfl, hb⟩
      have B2 := Lib.hid (B1.out.trans (hb.mono B1.out.size))
      have D2 := Lib.hid (D1.out.trans (hb.mono D1.out.size))
      have z1 := (D2.out.cell (p := ⟨w.heap.size, 1, none⟩) l0).trans q1
      have z6 := (D2.out.cell (p := ⟨w.heap.size, 6, none⟩) l0).trans q6
      clear hb
      go_wp2_with fail
      go_ret
      exact ⟨ret_bool HF.out.symm, B2.out⟩
    | true =>
      have HGs := Lib.hid hgs
      rw [hgs] at KG
      clear hgs
      by_cases hck : chk (r.out.map blM) = 0
      rotate_left
      · have HF := Lib.hid (vb_chk hck)
        obtain ⟨x, hx⟩ : ∃ x, chk (r.out.map blM) = x := ⟨_, rfl⟩
        rw [hx] at KC hck
        have t6 : (x != 0) = true := by rw [bne_iff_ne]; exact hck
        clear hx hck
        go_enter Tryd.func13, Tryd.ntmps13
        go_wp2_with fail
        rw [← hW0]
        clear hW0
        go_wp2_with fail
        refine (KL.out _).mono ?_
        rintro e w1 ⟨rfl, hb⟩
        have B1 := Lib.hid (HB.out.trans (hb.mono HB.out.size))
        have D1 := Lib.hid hb
        have y1 := (hb.cell (p := ⟨w.heap.size, 1, none⟩) l0).trans q1
        have y2 := (hb.cell (p := ⟨w.heap.size, 2, none⟩) l0).trans q2
        have y3 := (hb.cell (p := ⟨w.heap.size, 3, none⟩) l0).trans q3
        have y4 := (hb.cell (p := ⟨w.heap.size, 4, none⟩) l0).trans q4
        have y5 := (hb.cell (p := ⟨w.heap.size, 5, none⟩) l0).trans q5
        have y6 := (hb.cell (p := ⟨w.heap.size, 6, none⟩) l0).trans q6
        clear hb
        go_wp2_with fail
        refine (KG.out _ (HG.out.later D1.out)).mono ?_
        rintro e w2 ⟨rfl, hb⟩
        have B2 := Lib.hid (B1.out.trans (hb.mono B1.out.size))
        have D2 := Lib.hid (D1.out.trans (hb.mono D1.out.size))
        have z1 := (D2.out.cell (p := ⟨w.heap.size, 1, none⟩) l0).trans q1
        have z6 := (D2.out.cell (p := ⟨w.heap.size, 6, none⟩) l0).trans q6
        clear hb
        go_wp2_with fail
        refine (KB.out _ (HO.out.later D2.out)).mono ?_
        rintro e w3 ⟨bv, vs, rfl, hb, hmf⟩
        have B3 := Lib.hid (B2.out.trans (hb.mono B2.out.size))
        have D3 := Lib.hid (D2.out.trans (hb.mono D2.out.size))
        have M3 := Lib.hid hmf.mods
        clear hb hmf
        go_wp2_with fail
        refine (KC.out _ _ M3.out).mono ?_
        rintro e w4 ⟨rfl, hb⟩
        have B4 := Lib.hid (B3.out.trans (hb.mono B3.out.size))
        have D4 := Lib.hid (D3.out.trans (hb.mono D3.out.size))
        have u1 := (D4.out.cell (p := ⟨w.heap.size, 1, none⟩) l0).trans q1
        have u6 := (D4.out.cell (p := ⟨w.heap.size, 6, none⟩) l0).trans q6
        clear hb
        go_wp2_with fail
        go_ret
        exact ⟨ret_bool HF.out.symm, B4.out⟩
      have HCk := Lib.hid hck
      rw [hck] at KC
      clear hck
      go_enter Tryd.func13, Tryd.ntmps13
      go_wp2_with fail
      rw [← hW0]
      clear hW0
      go_wp2_with fail
      refine (KL.out _).mono ?_
      rintro e w1 ⟨rfl, hb⟩
      have B1 := Lib.hid (HB.out.trans (hb.mono HB.out.size))
      have D1 := Lib.hid hb
      have y1 := (hb.cell (p := ⟨w.heap.size, 1, none⟩) l0).trans q1
      have y2 := (hb.cell (p := ⟨w.heap.size, 2, none⟩) l0).trans q2
      have y3 := (hb.cell (p := ⟨w.heap.size, 3, none⟩) l0).trans q3
      have y4 := (hb.cell (p := ⟨w.heap.size, 4, none⟩) l0).trans q4
      have y5 := (hb.cell (p := ⟨w.heap.size, 5, none⟩) l0).trans q5
      have y6 := (hb.cell (p := ⟨w.heap.size, 6, none⟩) l0).trans q6
      clear hb
      go_wp2_with fail
      refine (KG.out _ (HG.out.later D1.out)).mono ?_
      rintro e w2 ⟨rfl, hb⟩
      have B2 := Lib.hid (B1.out.trans (hb.mono B1.out.size))
      have D2 := Lib.hid (D1.out.trans (hb.mono D1.out.size))
      have z1 := (D2.out.cell (p := ⟨w.heap.size, 1, none⟩) l0).trans q1
      have z6 := (D2.out.cell (p := ⟨w.heap.size, 6, none⟩) l0).trans q6
      clear hb
      go_wp2_with fail
      refine (KB.out _ (HO.out.later D2.out)).mono ?_
      rintro e w3 ⟨bv, vs, rfl, hb, hmf⟩
      have B3 := Lib.hid (B2.out.trans (hb.mono B2.out.size))
      have D3 := Lib.hid (D2.out.trans (hb.mono D2.out.size))
      have M3 := Lib.hid hmf.mods
      clear hb hmf
      go_wp2_with fail
      refine (KC.out _ _ M3.out).mono ?_
      rintro e w4 ⟨rfl, hb⟩
      have B4 := Lib.hid (B3.out.trans (hb.mono B3.out.size))
      have D4 := Lib.hid (D3.out.trans (hb.mono D3.out.size))
      have u1 := (D4.out.cell (p := ⟨w.heap.size, 1, none⟩) l0).trans q1
      have u6 := (D4.out.cell (p := ⟨w.heap.size, 6, none⟩) l0).trans q6
      clear hb
      go_wp2_with fail
      have b4z := B4.out.size
      have d4z := D4.out.size
      go_loopw [50] (fun i wr => ∃ k : Nat, k ≤ r.out.length ∧ i = .int .i64 k ∧ Below W0.heap.size W0 wr ∧ ∀ j, (h : j < r.out.length) → j < k → r.out[j].a.all (formB · r.ar) = true) (fun i _ => r.out.length - (intOf i).toNat)
      case atStart => exact ⟨0, Nat.zero_le _, rfl, D4.out, fun j _ h => by omega⟩
      case round =>
        rename World => wo
        obtain ⟨k, hk, rfl, hb, hok⟩ := hrel
        have HK := Lib.hid hok
        have HBr := Lib.hid hb
        have v1 := (hb.cell (p := ⟨w.heap.size, 1, none⟩) l0).trans q1
        have lo : w.heap.size < wo.heap.size := Nat.lt_of_lt_of_le l0 hb.size
        clear hok hb
        by_cases hlt : k < r.out.length
        · obtain ⟨b, off, cap', q, c, hp, e1, e2, hin, lb⟩ := (HO.out.later HBr.out).at hlt
          obtain rfl : po = some ⟨b, off, none⟩ := by cases hp; rfl
          have k1 : (k : Int) < (r.out.length : Int) := by omega
          have HI := Lib.hid hin
          have KF := Lib.hid (fun (w : World) (h : Fms w (.slice q r.out[k].a.length c) r.out[k].a) => allformed_any r.out[k].a (.slice q r.out[k].a.length c) r.ar (by have := (H4.out _ (List.getElem_mem hlt)).1; omega) (fun f hf => by have := (H4.out _ (List.getElem_mem hlt)).2 f hf; omega) w h)
          obtain ⟨t, ht⟩ : ∃ t, r.out[k].a.all (formB · r.ar) = t := ⟨_, rfl⟩
          have HT := Lib.hid ht
          rw [ht] at KF
          generalize r.out[k].c.toNat = ck at e1
          generalize r.out[k].a.length = fl at e2 KF HI
          obtain ⟨W1, hW1⟩ : ∃ W, W = wo.alloc (.cells #[.int .u8 ck, .slice q fl c] 33) := ⟨_, rfl⟩
          have N1 : W1.heap[wo.heap.size]? = some (.cells #[.int .u8 ck, .slice q fl c] 33 (0, 0)) := by rw [hW1]; exact heap_alloc_new _ _
          have b1 : Below wo.heap.size wo W1 := by rw [hW1]; exact (Below.refl _ _).alloc (Nat.le_refl _) _
          have E1 := Lib.hid b1
          have p0 := cell_two0 N1
          have p1 := cell_two1 N1
          have x1 := (b1.cell (p := ⟨w.heap.size, 1, none⟩) lo).trans v1
          clear hp hin ht N1 b1
          cases t with
          | false =>
            have HF := Lib.hid (vb_out hlt HT.out)
            go_wp2_with fail
            rw [← hW1]
            clear hW1
            go_wp2_with fail
            refine (KF.out _ (HI.out.later E1.out)).mono ?_
            rintro e w5 ⟨rfl, hb⟩
            have HB1 := Lib.hid (HB.out.trans ((HBr.out.trans ((E1.out.trans (hb.mono E1.out.size)).mono HBr.out.size)).mono HB.out.size))
            clear hb
            go_wp2_with fail
            go_ret
            exact ⟨ret_bool HF.out.symm, HB1.out⟩
          | true =>
            have HG2 : Hid (∀ j, (h : j < r.out.length) → j < k + 1 → r.out[j].a.all (formB · r.ar) = true) := Lib.hid (fun j h hj => by
              rcases Nat.lt_or_eq_of_le (Nat.le_of_lt_succ hj) with h1 | h1
              · exact HK.out j h h1
              · subst h1; exact HT.out)
            go_wp2_with fail
            rw [← hW1]
            clear hW1
            go_wp2_with fail
            refine (KF.out _ (HI.out.later E1.out)).mono ?_
            rintro e w5 ⟨rfl, hb⟩
            have HB1 := Lib.hid (HBr.out.trans ((E1.out.trans (hb.mono E1.out.size)).mono HBr.out.size))
            clear hb
            go_wp2_with fail
            go_roundw
            case rel => exact ⟨k + 1, by omega, by go_num, HB1.out, HG2.out⟩
            case measure => simp [intOf]; omega
        · obtain rfl : k = r.out.length := by omega
          have HF := Lib.hid (vb_ok HL.out (by omega) (by omega) HP.out HGs.out HCk.out (fun i hi => HK.out i hi hi))
          go_wp2_with fail
          go_ret
          exact ⟨ret_bool HF.out.symm, HB.out.trans (HBr.out.mono HB.out.size)⟩
theorem pr_no {l : List Rw} (h : manyB l = false) {k : Nat} (hk : k < l.length) (h2 : validB l[k] = false) : rchk l = 8 := by
  rw [rchk_valid h, if_neg]
  intro h3
  have := List.all_eq_true.1 h3 _ (List.getElem_mem hk)
  rw [h2] at this; exact absurd this (by decide)
theorem pr_ok {l : List Rw} (h : manyB l = false) (h2 : ∀ k, (hk : k < l.length) → validB l[k] = true) : rchk l = 0 := by
  rw [rchk_valid h, if_pos]
  rw [List.all_eq_true]
  intro x hx
  obtain ⟨j, hj, rfl⟩ := List.mem_iff_getElem.1 hx
  exact h2 j hj
set_option maxRecDepth 100000 in
set_option maxHeartbeats 3200000 in
theorem prcheck_any (v : Value) (l : List Rw) (hmax : l.length ≤ 9223372036854775807) (hs : ∀ r ∈ l, RwSm r) (w : World) (hv : Rws w v l) :
    Calls Tryd.prog 6 #[v] w fun e w' => e = .returned (.int .i64 (rchk l)) ∧ Below w.heap.size w w' := by
  obtain ⟨p, cap, rfl⟩ := hv.slice
  have HV := Lib.hid hv
  have HS := Lib.hid hs
  clear hv hs
  by_cases h40 : 40 < l.length
  · have HF := Lib.hid (rchk_many (many_len h40))
    have c1 : (40 : Int) < (l.length : Int) := by omega
    go_enter Tryd.func6, Tryd.ntmps6
    go_wp2_with fail
    go_ret
    exact ⟨ret_int HF.out.symm, Below.refl _ _⟩
  have c1 : ¬ (40 : Int) < (l.length : Int) := by omega
  go_enter Tryd.func6, Tryd.ntmps6
  go_wp2_with fail
  go_loopw [12] (fun i wr => ∃ k : Nat, k ≤ l.length ∧ i = .int .i64 k ∧ Below w.heap.size w wr ∧ ∀ j, (hj : j < l.length) → j < k → ¬ 4 < l[j].gs.length ∧ ¬ 20 < l[j].out.length) (fun i _ => l.length - (intOf i).toNat)
  case atStart => exact ⟨0, Nat.zero_le _, rfl, Below.refl _ _, fun j _ h => by omega⟩
  case round =>
    rename World => wo
    obtain ⟨k, hk, rfl, hb, hok⟩ := hrel
    have HK := Lib.hid hok
    have HB := Lib.hid hb
    have hbz := hb.size
    clear hok hb
    by_cases hlt : k < l.length
    · obtain ⟨b, off, cap', g, gc, o, oc, hp, lb, hat⟩ := (HV.out.later (HB.out.mono (Nat.le_refl _))).at hlt
      obtain rfl : p = some ⟨b, off, none⟩ := by cases hp; rfl
      have k1 : (k : Int) < (l.length : Int) := by omega
      obtain ⟨e0, e1, e2, e3, e4, e5, e6, _, _⟩ := hat
      have HN : Hid (∀ k', k' = l[k].gs.length → ∀ k'', k'' = l[k].out.length → (4 < k' ∨ 20 < k'' → rchk l = 4) ∧ (¬ 4 < k' → ¬ 20 < k'' → ∀ j, (hj : j < l.length) → j < k + 1 → ¬ 4 < l[j].gs.length ∧ ¬ 20 < l[j].out.length)) := Lib.hid (by
        rintro _ rfl _ rfl
        refine ⟨fun h => rchk_many (many_at hlt h), fun h4 h20 j hj h => ?_⟩
        rcases Nat.lt_or_eq_of_le (Nat.le_of_lt_succ h) with h1 | h1
        · exact HK.out j hj h1
        · subst h1; exact ⟨h4, h20⟩)
      have HN2 := Lib.hid (HN.out _ rfl _ rfl)
      generalize l[k].c.toNat = x0 at e0
      generalize l[k].ar = x1 at e1
      generalize l[k].l.toNat = x2 at e2
      generalize l[k].r.toNat = x3 at e3
      generalize l[k].gs.length = x4 at e4 HN2
      generalize l[k].wt = x5 at e5
      generalize l[k].out.length = x6 at e6 HN2
      obtain ⟨W1, hW1⟩ : ∃ W, W = wo.alloc (.cells #[.int .u8 x0, .int .i64 x1, .int .u8 x2, .int .u8 x3, .slice g x4 gc, .int .i64 x5, .slice o x6 oc] 31) := ⟨_, rfl⟩
      have N1 : W1.heap[wo.heap.size]? = some (.cells #[.int .u8 x0, .int .i64 x1, .int .u8 x2, .int .u8 x3, .slice g x4 gc, .int .i64 x5, .slice o x6 oc] 31 (0, 0)) := by rw [hW1]; exact heap_alloc_new _ _
      have b1 : Below w.heap.size w W1 := by rw [hW1]; exact HB.out.alloc hbz _
      have B1 := Lib.hid b1
      have y4 : W1.cell? ⟨wo.heap.size, 4, none⟩ = some (.slice g x4 gc) := by simp [World.cell?, N1]
      have y6 : W1.cell? ⟨wo.heap.size, 6, none⟩ = some (.slice o x6 oc) := by simp [World.cell?, N1]
      clear hp N1 b1
      by_cases h4 : 4 < x4
      · have HF := Lib.hid (HN2.out.1 (.inl h4))
        have c4 : (4 : Int) < (x4 : Int) := by omega
        go_wp2_with fail
        rw [← hW1]
        clear hW1
        go_wp2_with fail
        go_ret
        exact ⟨ret_int HF.out.symm, B1.out⟩
      · have c4 : ¬ (4 : Int) < (x4 : Int) := by omega
        by_cases h20 : 20 < x6
        · have HF := Lib.hid (HN2.out.1 (.inr h20))
          have c5 : (20 : Int) < (x6 : Int) := by omega
          go_wp2_with fail
          rw [← hW1]
          clear hW1
          go_wp2_with fail
          go_ret
          exact ⟨ret_int HF.out.symm, B1.out⟩
        · have c5 : ¬ (20 : Int) < (x6 : Int) := by omega
          have HG := Lib.hid (HN2.out.2 h4 h20)
          go_wp2_with fail
          rw [← hW1]
          clear hW1
          go_wp2_with fail
          go_roundw
          case rel => exact ⟨k + 1, by omega, by go_num, B1.out, HG.out⟩
          case measure => simp [intOf]; omega
    · obtain rfl : k = l.length := by omega
      have HM := Lib.hid (many_not h40 (fun i hi => HK.out i hi hi))
      clear HK
      go_wp2_with fail
      go_loopw [29] (fun i wr => ∃ k : Nat, k ≤ l.length ∧ i = .int .i64 k ∧ Below w.heap.size w wr ∧ ∀ j, (hj : j < l.length) → j < k → validB l[j] = true) (fun i _ => l.length - (intOf i).toNat)
      case atStart => exact ⟨0, Nat.zero_le _, rfl, HB.out, fun j _ h => by omega⟩
      case round =>
        rename World => wi
        obtain ⟨k, hk, rfl, hb, hok⟩ := hrel
        have HK := Lib.hid hok
        have HBi := Lib.hid hb
        have hbz2 := hb.size
        clear hok hb
        by_cases hlt : k < l.length
        · obtain ⟨b, off, cap', g, gc, o, oc, hp, lb, hat⟩ := (HV.out.later (HBi.out.mono (Nat.le_refl _))).at hlt
          obtain rfl : p = some ⟨b, off, none⟩ := by cases hp; rfl
          have k1 : (k : Int) < (l.length : Int) := by omega
          have HCw : Hid (∀ w', Below wi.heap.size wi w' → Calls Tryd.prog 13 #[.agg #[.int .u8 l[k].c.toNat, .int .i64 l[k].ar, .int .u8 l[k].l.toNat, .int .u8 l[k].r.toNat, .slice g l[k].gs.length gc, .int .i64 l[k].wt, .slice o l[k].out.length oc]] w' fun e w'' => e = .returned (.bool (validB l[k])) ∧ Below w'.heap.size w' w'') :=
            Lib.hid (fun w' hb => pvalid_any l[k] _ _ (HS.out _ (List.getElem_mem hlt)) w' (hat.gs.later hb) (hat.out.later hb))
          obtain ⟨t, ht⟩ : ∃ t, validB l[k] = t := ⟨_, rfl⟩
          have HT := Lib.hid ht
          rw [ht] at HCw
          obtain ⟨e0, e1, e2, e3, e4, e5, e6, _, _⟩ := hat
          generalize l[k].c.toNat = x0 at e0 HCw
          generalize l[k].ar = x1 at e1 HCw
          generalize l[k].l.toNat = x2 at e2 HCw
          generalize l[k].r.toNat = x3 at e3 HCw
          generalize l[k].gs.length = x4 at e4 HCw
          generalize l[k].wt = x5 at e5 HCw
          generalize l[k].out.length = x6 at e6 HCw
          obtain ⟨W1, hW1⟩ : ∃ W, W = wi.alloc (.cells #[.int .u8 x0, .int .i64 x1, .int .u8 x2, .int .u8 x3, .slice g x4 gc, .int .i64 x5, .slice o x6 oc] 31) := ⟨_, rfl⟩
          have N1 : W1.heap[wi.heap.size]? = some (.cells #[.int .u8 x0, .int .i64 x1, .int .u8 x2, .int .u8 x3, .slice g x4 gc, .int .i64 x5, .slice o x6 oc] 31 (0, 0)) := by rw [hW1]; exact heap_alloc_new _ _
          have b1 : Below wi.heap.size wi W1 := by rw [hW1]; exact (Below.refl _ _).alloc (Nat.le_refl _) _
          have E1 := Lib.hid b1
          have y0 : W1.cell? ⟨wi.heap.size, 0, none⟩ = some (.int .u8 x0) := by simp [World.cell?, N1]
          have y1 : W1.cell? ⟨wi.heap.size, 1, none⟩ = some (.int .i64 x1) := by simp [World.cell?, N1]
          have y2 : W1.cell? ⟨wi.heap.size, 2, none⟩ = some (.int .u8 x2) := by simp [World.cell?, N1]
          have y3 : W1.cell? ⟨wi.heap.size, 3, none⟩ = some (.int .u8 x3) := by simp [World.cell?, N1]
          have y4 : W1.cell? ⟨wi.heap.size, 4, none⟩ = some (.slice g x4 gc) := by simp [World.cell?, N1]
          have y5 : W1.cell? ⟨wi.heap.size, 5, none⟩ = some (.int .i64 x5) := by simp [World.cell?, N1]
          have y6 : W1.cell? ⟨wi.heap.size, 6, none⟩ = some (.slice o x6 oc) := by simp [World.cell?, N1]
          clear hp ht N1 b1
          cases t with
          | false =>
            have HF := Lib.hid (pr_no HM.out hlt HT.out)
            go_wp2_with fail
            rw [← hW1]
            clear hW1
            go_wp2_with fail
            refine (HCw.out _ E1.out).mono ?_
            rintro e w5 ⟨rfl, hb⟩
            have HB1 := Lib.hid (HBi.out.trans ((E1.out.trans (hb.mono E1.out.size)).mono HBi.out.size))
            clear hb
            go_wp2_with fail
            go_ret
            exact ⟨ret_int HF.out.symm, HB1.out⟩
          | true =>
            have HG2 : Hid (∀ j, (hj : j < l.length) → j < k + 1 → validB l[j] = true) := Lib.hid (fun j h hj => by
              rcases Nat.lt_or_eq_of_le (Nat.le_of_lt_succ hj) with h1 | h1
              · exact HK.out j h h1
              · subst h1; exact HT.out)
            go_wp2_with fail
            rw [← hW1]
            clear hW1
            go_wp2_with fail
            refine (HCw.out _ E1.out).mono ?_
            rintro e w5 ⟨rfl, hb⟩
            have HB1 := Lib.hid (HBi.out.trans ((E1.out.trans (hb.mono E1.out.size)).mono HBi.out.size))
            clear hb
            go_wp2_with fail
            go_roundw
            case rel => exact ⟨k + 1, by omega, by go_num, HB1.out, HG2.out⟩
            case measure => simp [intOf]; omega
        · obtain rfl : k = l.length := by omega
          have HF := Lib.hid (pr_ok HM.out (fun i hi => HK.out i hi hi))
          go_wp2_with fail
          go_ret
          exact ⟨ret_int HF.out.symm, HBi.out⟩
end Go.Proofs.YtlmofdmbcddddaaDoor
namespace Go.Proofs.YtlmofdmbcddddaaDoor
open Go.RowKit
open WM RM
set_option linter.unusedVariables false
set_option linter.unusedSimpArgs false

set_option maxRecDepth 100000 in
set_option maxHeartbeats 1600000 in
theorem prfind_any (v : Value) (l : List Rw) (m : Md) (mv : Value) (hmax : l.length ≤ 9223372036854775807) (hs : ∀ r ∈ l, RwSm r) (hml : m.a.length ≤ 9223372036854775807) (w : World) (hv : Rws w v l) (hmv : Ints w mv m.a) (hn : NilOr mv) :
    Calls Tryd.prog 12 #[v, .agg #[.int .u8 m.c.toNat, mv]] w fun e w' => e = .returned (.tuple #[.int .i64 (finV l m), .int .i64 (finC l m)]) ∧ Below w.heap.size w w' := by
  obtain ⟨p, cap, rfl⟩ := hv.slice
  obtain ⟨p2, cap2, rfl⟩ := hmv.slice
  obtain ⟨W0, hW0⟩ : ∃ W, W = w.alloc (.cells #[.int .u8 m.c.toNat, .slice p2 m.a.length cap2] 25) := ⟨_, rfl⟩
  have N0 : W0.heap[w.heap.size]? = some (.cells #[.int .u8 m.c.toNat, .slice p2 m.a.length cap2] 25 (0, 0)) := by rw [hW0]; exact heap_alloc_new _ _
  have B0 : Below w.heap.size w W0 := by rw [hW0]; exact (Below.refl _ _).alloc (Nat.le_refl _) _
  have HB := Lib.hid B0
  have HV := Lib.hid (hv.later B0)
  have HM := Lib.hid (hmv.later B0)
  have HN := Lib.hid hn
  have q0 := cell_two0 N0
  have q1 := cell_two1 N0
  have l1 := lt_of_block N0
  have KC := Lib.hid (fun w h => prcheck_any (.slice p l.length cap) l hmax hs w h)
  have KW := Lib.hid (fun (w : World) (h : Ints w (.slice p2 m.a.length cap2) m.a) => pcheck_any (.slice (some ⟨w.heap.size, 0, none⟩) 1 1) [m] (by simp) (by simpa using hml) (w.alloc (.cells #[.int .u8 m.c.toNat, .slice p2 m.a.length cap2] 25)) (mods_new w m _ h HN.out))
  clear N0 B0 hv hmv hn
  by_cases h0 : rchk l = 0
  · obtain ⟨r1, r2⟩ := rchk_zero h0
    rw [h0] at KC
    have hc8 := chk_one m
    obtain ⟨x, hx⟩ : ∃ x, chk [m] = x := ⟨_, rfl⟩
    rw [hx] at KW hc8
    cases hf : fineB m with
    | false =>
      have HF := Lib.hid (fin_bad h0 hf)
      rw [hf] at hc8
      have t8 : (x == 8) = true := hc8
      clear h0 hf r1 r2 hs hx hc8
      go_enter Tryd.func12, Tryd.ntmps12
      go_wp2_with fail
      rw [← hW0]
      clear hW0
      go_wp2_with fail
      refine (KC.out _ HV.out).mono ?_
      rintro e w1 ⟨rfl, hb⟩
      have D1 := Lib.hid hb
      have y0 := (hb.cell (p := ⟨w.heap.size, 0, none⟩) l1).trans q0
      have y1 := (hb.cell (p := ⟨w.heap.size, 1, none⟩) l1).trans q1
      clear hb
      go_wp2_with fail
      refine (KW.out _ (HM.out.later D1.out)).mono ?_
      rintro e w2 ⟨rfl, hb⟩
      have B2 := Lib.hid (HB.out.trans ((D1.out.trans (((Below.refl w1.heap.size w1).alloc (Nat.le_refl _) _).mono D1.out.size |>.trans (hb.mono (by have := D1.out.size; simp; omega)))).mono HB.out.size))
      clear hb
      go_wp2_with fail
      go_ret2
      exact ⟨rret_two HF.out.2.symm HF.out.1.symm, B2.out⟩
    | true =>
      have HF := Lib.hid (fin_ok h0 hf)
      rw [hf] at hc8
      have t8 : (x == 8) = false := hc8
      have KT := Lib.hid (fun w h h' => prfirst_any (.slice p l.length cap) l m (.slice p2 m.a.length cap2) hmax (fun r hr => ⟨rule_guards (r2 r hr).1, by have := (hs r hr).1; omega⟩) hf w h h')
      obtain ⟨z, hz⟩ : ∃ z, first l m = z := ⟨_, rfl⟩
      rw [hz] at KT HF
      clear h0 hf r1 r2 hs hz hx hc8
      go_enter Tryd.func12, Tryd.ntmps12
      go_wp2_with fail
      rw [← hW0]
      clear hW0
      go_wp2_with fail
      refine (KC.out _ HV.out).mono ?_
      rintro e w1 ⟨rfl, hb⟩
      have D1 := Lib.hid hb
      have y0 := (hb.cell (p := ⟨w.heap.size, 0, none⟩) l1).trans q0
      have y1 := (hb.cell (p := ⟨w.heap.size, 1, none⟩) l1).trans q1
      clear hb
      go_wp2_with fail
      refine (KW.out _ (HM.out.later D1.out)).mono ?_
      rintro e w2 ⟨rfl, hb⟩
      have D2 : Hid (Below W0.heap.size W0 w2) := Lib.hid (D1.out.trans (((Below.refl w1.heap.size w1).alloc (Nat.le_refl _) _).mono D1.out.size |>.trans (hb.mono (by have := D1.out.size; simp; omega))))
      have z0 := (D2.out.cell (p := ⟨w.heap.size, 0, none⟩) l1).trans q0
      have z1 := (D2.out.cell (p := ⟨w.heap.size, 1, none⟩) l1).trans q1
      clear hb
      go_wp2_with fail
      refine (KT.out _ (HV.out.later D2.out) (HM.out.later D2.out)).mono ?_
      rintro e w3 ⟨rfl, hb⟩
      have B3 := Lib.hid (HB.out.trans ((D2.out.trans (hb.mono D2.out.size)).mono HB.out.size))
      clear hb
      go_wp2_with fail
      go_ret2
      exact ⟨rret_two HF.out.2.symm HF.out.1.symm, B3.out⟩
  · have HF := Lib.hid (fin_rules (m := m) h0)
    obtain ⟨c, hc⟩ : ∃ c, rchk l = c := ⟨_, rfl⟩
    rw [hc] at KC HF h0
    have h1 : (c != 0) = true := by rw [bne_iff_ne]; exact h0
    clear h0 hc hs
    go_enter Tryd.func12, Tryd.ntmps12
    go_wp2_with fail
    rw [← hW0]
    clear hW0
    go_wp2_with fail
    refine (KC.out _ HV.out).mono ?_
    rintro e w1 ⟨rfl, hb⟩
    have B1 := Lib.hid (HB.out.trans (hb.mono HB.out.size))
    clear hb
    go_wp2_with fail
    go_ret2
    exact ⟨rret_two HF.out.2.symm HF.out.1.symm, B1.out⟩
end Go.Proofs.YtlmofdmbcddddaaDoor
