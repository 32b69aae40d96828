/-
  The package's iterator over what a word's modules become.
-/
import Derived.Test.YtkjjehnfibfngaaRewPrH
import Derived.Test.YtkjjehnfibfngaaRewRng
import Derived.Test.YtkjjehnfibfngaaWordPrF
namespace Go.Proofs.Ytkjjehnfibfngaa
open Go.RowKit Go.Shelf
open WM RM
set_option linter.unusedVariables false
set_option linter.unusedSimpArgs false
attribute [local go_sem] Oper.semAt_some

/-- What the iterator hands on: a module (or none, where an arg is out of range) and its args' slice. -/
structure Yx where
  o : Option Md
  p : Option Addr
  n : Nat
  c : Nat
abbrev Yx.v (x : Yx) : Value := .slice x.p x.n x.c
def Yx.cn (x : Yx) : Int := match x.o with | some m => m.c.toNat | none => 0
def Yx.er (x : Yx) : Int := match x.o with | some _ => 0 | none => 16
def yV (x : Yx) : Array Value := #[.agg #[.int .u8 x.cn, x.v], .int .i64 x.er]
def Yx.at (b0 : Nat) (x : Yx) (W : World) : Prop := match x.o with | some m => W.ownsRow b0 3 1 x.v m.a.length (valsL m.a) | none => x.v = .slice none 0 0
theorem seq_cut {l : List Rw} {u : List Md} {i : Nat} (hi : i < u.length) : seqO l u = seqO l (u.take i) ++ (sucO l u[i] ++ seqO l (u.drop (i + 1))) := by
  have e : u = u.take i ++ (u[i] :: u.drop (i + 1)) := by rw [← List.drop_eq_getElem_cons hi, List.take_append_drop]
  have : seqO l u = seqO l (u.take i ++ (u[i] :: u.drop (i + 1))) := by rw [← e]
  rw [this]
  unfold seqO
  rw [List.flatMap_append, List.flatMap_cons]
theorem seq_pre {l : List Rw} {u : List Md} {i k : Nat} (hi : i < u.length) : seqO l (u.take i) ++ (sucO l u[i]).take k <+: seqO l u := by
  rw [seq_cut hi]
  refine ⟨(sucO l u[i]).drop k ++ seqO l (u.drop (i + 1)), ?_⟩
  rw [List.append_assoc]
  congr 1
  rw [← List.append_assoc, List.take_append_drop]
theorem seq_step {l : List Rw} {u : List Md} {i k : Nat} (hi : i < u.length) (hk : k < (sucO l u[i]).length) {pre : List Yx} (hp : pre.map Yx.o = seqO l (u.take i) ++ (sucO l u[i]).take k) {x : Yx} (hx : x.o = (sucO l u[i])[k]) :
    pre.length < (seqO l u).length ∧ (pre ++ [x]).map Yx.o = seqO l (u.take i) ++ (sucO l u[i]).take (k + 1) ∧ (pre ++ [x]).map Yx.o <+: seqO l u := by
  have h2 : (pre ++ [x]).map Yx.o = seqO l (u.take i) ++ (sucO l u[i]).take (k + 1) := by
    rw [List.map_append, hp, List.map_cons, List.map_nil, hx, List.take_succ_eq_append_getElem hk, List.append_assoc]
  have h3 : (pre ++ [x]).map Yx.o <+: seqO l u := by rw [h2]; exact seq_pre hi
  refine ⟨?_, h2, h3⟩
  have := h3.length_le
  rw [List.length_map, List.length_append] at this
  simp at this; omega
theorem seq_end {l : List Rw} {u : List Md} {i : Nat} (hi : i < u.length) : seqO l (u.take i) ++ (sucO l u[i]).take (sucO l u[i]).length = seqO l (u.take (i + 1)) := by rw [List.take_length, seqO_snoc hi]
theorem abides_on {β : Type} {B : Nat} {J : β → World → Prop} (h : AbidesFrom B J) {s : β} {W W' : World} (hj : J s W) (hb : Below W.heap.size W W') : J s W' := h s W W' none hj (grown_of_below hb none) (fun r e => by cases e)
theorem keep_row {r r' : Option Nat} {N0 B k : Nat} {W W' : World} (h : StepK N0 B r r' W W') (hk : k < W.heap.size) (hr : some k ≠ r) : some k ≠ r' := by
  rcases h.row with e | e
  · rw [e]; exact hr
  · intro e2
    have := e k e2.symm; omega
theorem at_made {b0 N : Nat} {w : World} {s : Sh} {x : List Int} {pv : Option Addr} {cv : Nat} (h : w.ownsRow N 3 1 (.slice pv s.a.length cv) s.a.length (valsL (s.a.map (worth · x)))) (hb : b0 ≤ N) : (⟨some (mkM s x), pv, s.a.length, cv⟩ : Yx).at b0 w := by
  have e : (mkM s x).a.length = s.a.length := by simp [mkM]
  show w.ownsRow b0 3 1 (.slice pv s.a.length cv) (mkM s x).a.length (valsL (mkM s x).a)
  rw [e]
  exact owns_mono h hb
theorem first_fit' {l : List Rw} {m : Md} : ∀ {k : Nat}, first l m = (k : Int) → ∃ hk : k < l.length, fitB l[k] m = true := by
  have key : ∀ (l : List Rw) (i : Int) (k : Nat), firstF l m i = i + k → 0 ≤ i → ∃ hk : k < l.length, fitB l[k] m = true := by
    intro l
    induction l with
    | nil => intro i k h h0; simp [firstF] at h; omega
    | cons r l ih =>
      intro i k h h0
      unfold firstF at h
      by_cases hf : fitB r m = true
      · rw [if_pos hf] at h
        obtain rfl : k = 0 := by omega
        exact ⟨by simp, hf⟩
      · rw [if_neg hf] at h
        cases k with
        | zero =>
          exfalso
          rcases firstF_rng l m (i + 1) with h2 | ⟨h2, _⟩
          · omega
          · omega
        | succ k =>
          obtain ⟨hk, h3⟩ := ih (i + 1) k (by omega) (by omega)
          exact ⟨by simp; omega, by simpa using h3⟩
  intro k h
  exact key l 0 k (by unfold first at h; omega) (by omega)
theorem fit_ar' {r : Rw} {m : Md} (h : fitB r m = true) : r.ar = (m.a.length : Int) := by
  unfold fitB at h
  simp only [Bool.and_eq_true, decide_eq_true_eq] at h
  exact h.1.2
theorem rule_forms' {r : Rw} (h : ruleB r = true) : ∀ s ∈ r.out, ∀ f ∈ s.a, formB f r.ar = true := by
  unfold ruleB at h
  simp only [Bool.and_eq_true] at h
  intro s hs f hf
  have h1 := List.all_eq_true.1 h.1.2 s hs
  unfold shB at h1
  simp only [Bool.and_eq_true] at h1
  exact List.all_eq_true.1 h1.2 f hf
/-- Where the loop over the word stands. -/
structure OutI (w0 : World) (BR B : Nat) (vr : Value) (l : List Rw) (u : List Md) (J : Option Nat → List Yx → World → Prop) (i : Nat) (wr : World) : Prop where
  hi : i ≤ u.length
  own : ∃ r pre, pre.map Yx.o = seqO l (u.take i) ∧ J r pre wr ∧ some BR ≠ r
  below : Below w0.heap.size w0 wr
  box : wr.heap[BR]? = some (.cells #[vr] 22 (0, 0))
  hB : B < wr.heap.size
/-- Where the loop over a rule's shapes stands. -/
structure InI (w0 : World) (BR mb : Nat) (mo : Obj) (vr : Value) (l : List Rw) (u : List Md) (sq : List (Option Md)) (i : Nat) (J : Option Nat → List Yx → World → Prop) (k : Nat) (wr : World) : Prop where
  hk : k ≤ sq.length
  own : ∃ r pre, pre.map Yx.o = seqO l (u.take i) ++ sq.take k ∧ J r pre wr ∧ some BR ≠ r ∧ some mb ≠ r
  below : Below w0.heap.size w0 wr
  box : wr.heap[BR]? = some (.cells #[vr] 22 (0, 0))
  mod : wr.heap[mb]? = some mo
theorem cell_box {w : World} {b : Nat} {x : Value} {t : TypeId} (h : w.heap[b]? = some (.cells #[x] t (0, 0))) : w.cell? ⟨b, 0, none⟩ = some x := by simp [World.cell?, h]
set_option maxRecDepth 100000 in
set_option maxHeartbeats 6400000 in
theorem succ1_in (n lp BR BW B b0 : Nat) (w0 : World) (p : Option Addr) (cap : Nat) (l : List Rw) (hl : l.length ≤ 9223372036854775807) (hs : ∀ r ∈ l, RwSm r) (hru : ∀ r ∈ l, ruleB r = true)
    (wv : Value) (u : List Md) (us : List Value) (hu : u.length ≤ 2100) (huf : ∀ m ∈ u, fineB m = true) (hb0 : b0 ≤ w0.heap.size) (h1 : Rws w0 (.slice p l.length cap) l) (h2 : ModFr w0 b0 wv u us)
    (J : Option Nat → List Yx → World → Prop) (Jx : List Yx → World → Prop) (BB : Nat) (hJ : AbidesFrom BB (fun (s : Option Nat × List Yx) => J s.1 s.2)) (hJr : ∀ r pre W1, J r pre W1 → ∀ g, r = some g → g < W1.heap.size)
    (hY : ∀ r pre x W1, J r pre W1 → x.at b0 W1 → pre.length < (seqO l u).length → YieldAt Fence.wide (n - 1) Try.prog lp (yV x) W1 (TellR w0.heap.size B J Jx r (pre ++ [x]) W1))
    (W : World) (hW : Below w0.heap.size w0 W) (hbr : W.heap[BR]? = some (.cells #[.slice p l.length cap] 22 (0, 0))) (hbw : W.cell? ⟨BW, 0, none⟩ = some wv) (hBR : BR ≠ B) (hBl : B < W.heap.size) (h0 : J none [] W) :
    CallsIn Fence.wide n Try.prog 50 #[.func (.yield lp) #[] #[], .pointer (some ⟨BW, 0, none⟩), .pointer (some ⟨BR, 0, none⟩)] W fun e W' => (∃ v, e = .returned v) ∧ ((∃ r xs, xs.map Yx.o = seqO l u ∧ J r xs W') ∨ (∃ pre, pre.map Yx.o <+: seqO l u ∧ Jx pre W')) := by
  refine callsIn_of_wp Try.func50 rfl trivial ?_ rfl
  simp only [Try.ntmps50, List.size_toArray, List.length_cons, List.length_nil, Nat.reduceAdd, Nat.reduceSub, Array.replicate_succ, Array.replicate_zero, List.push_toArray, List.append_toArray, List.nil_append, List.cons_append]
  have HY := Lib.hid hY
  have HJ := Lib.hid hJ
  have HJr := Lib.hid hJr
  have HS := Lib.hid hs
  have HRu := Lib.hid hru
  have HUf := Lib.hid huf
  have H1 := Lib.hid h1
  have H2 := Lib.hid h2
  have O0 : Hid (OutI w0 BR B (.slice p l.length cap) l u J 0 W) := Lib.hid ⟨Nat.zero_le _, ⟨none, [], by simp [seqO], h0, by simp⟩, hW, hbr, hBl⟩
  obtain ⟨pw, cw, hwv⟩ := fr_slice h2.row
  subst hwv
  clear hY hJ hJr hs hru huf h1 h2 h0 hW hbr
  gi_wp2
  gi_loopw [11] (fun iv wr => ∃ i : Nat, iv = .int .i64 i ∧ OutI w0 BR B (.slice p l.length cap) l u J i wr) (fun iv _ => u.length - (intOf iv).toNat)
  case atStart => exact ⟨0, rfl, O0.out⟩
  case round =>
    rename World => wo
    obtain ⟨i, rfl, hO⟩ := hrel
    have HO := Lib.hid hO
    have hiu := hO.hi
    have hbx := cell_box hO.box
    have lbr := lt_of_block hO.box
    have hBl2 := hO.hB
    have hwz := hO.below.size
    clear hO
    by_cases hlt : i < u.length
    · have k1 : (i : Int) < (u.length : Int) := by omega
      obtain ⟨g, rfl⟩ : ∃ g, pw = some ⟨g, 0, none⟩ := by
        rcases H2.out.row.2 with ⟨_, h⟩ | ⟨g, c, cur, h, _⟩
        · omega
        · cases h; exact ⟨g, rfl⟩
      have hi2 : i < us.length := by rw [H2.out.len]; exact hlt
      have hro := (H2.out.later HO.out.below).row
      have e0 := hro.cellAt (i * 2) (by omega)
      have e1 := hro.cellAt (i * 2 + 1) (by omega)
      rw [(modC_get u us i hlt hi2).1] at e0
      rw [(modC_get u us i hlt hi2).2] at e1
      have HA := Lib.hid (H2.out.args i hlt hi2).own
      obtain ⟨q, cq, hq⟩ := fr_slice HA.out
      have HI := Lib.hid (ints_of_owned HA.out)
      rw [hq] at e1 HA HI
      have hfi := HUf.out _ (List.getElem_mem hlt)
      have HNx : Hid (∀ (k : Nat) (hk : k < (sucO l u[i]).length) (pre : List Yx) (x : Yx), pre.map Yx.o = seqO l (u.take i) ++ (sucO l u[i]).take k → x.o = (sucO l u[i])[k] → pre.length < (seqO l u).length ∧ (pre ++ [x]).map Yx.o = seqO l (u.take i) ++ (sucO l u[i]).take (k + 1) ∧ (pre ++ [x]).map Yx.o <+: seqO l u) := Lib.hid (fun k hk pre x h1 h2 => seq_step hlt hk h1 h2)
      have HEn := Lib.hid (seq_end (l := l) hlt)
      have HS1 : Hid (first l u[i] < 0 → sucO l u[i] = [some u[i]]) := Lib.hid sucO_self
      have HS2 : Hid (∀ k : Nat, first l u[i] = (k : Int) → ∀ hk : k < l.length, sucO l u[i] = l[k].out.map (shO · u[i].a)) := Lib.hid (fun k h hk => sucO_made h hk)
      obtain ⟨sq, hsq⟩ : ∃ sq, sucO l u[i] = sq := ⟨_, rfl⟩
      have HSq := Lib.hid hsq
      rw [hsq] at HNx HEn HS1 HS2
      obtain ⟨m, hm⟩ : ∃ m, u[i] = m := ⟨_, rfl⟩
      rw [hm] at e0 e1 HA HI hfi HS1 HS2
      have HFi := Lib.hid hfi
      obtain ⟨Wm, hWm⟩ : ∃ W, W = wo.alloc (.cells #[.int .u8 m.c.toNat, .slice q m.a.length cq] 27) := ⟨_, rfl⟩
      have Nm : Wm.heap[wo.heap.size]? = some (.cells #[.int .u8 m.c.toNat, .slice q m.a.length cq] 27 (0, 0)) := by rw [hWm]; exact heap_alloc_new _ _
      have bm : Below wo.heap.size wo Wm := by rw [hWm]; exact (Below.refl _ _).alloc (Nat.le_refl _) _
      have HNm := Lib.hid Nm
      have EM := Lib.hid bm
      have KT := Lib.hid (prfirst_any (.slice p l.length cap) l m (.slice q m.a.length cq) hl (fun r hr => ⟨rule_guards (HRu.out r hr), by have := (HS.out r hr).1; omega⟩) hfi Wm ((H1.out.later HO.out.below).later bm) ((HI.out.later HO.out.below).later bm))
      obtain ⟨z, hz⟩ : ∃ z, first l m = z := ⟨_, rfl⟩
      have HZ := Lib.hid hz
      rw [hz] at KT HS1 HS2
      have cm0 := cell_two0 Nm
      have cm1 := cell_two1 Nm
      have cbx := (bm.cell (p := ⟨BR, 0, none⟩) lbr).trans hbx
      have lm := lt_of_block Nm
      clear hro hq Nm bm hfi hz hsq hm
      gi_wp2_with fail
      rw [← hWm]
      clear hWm
      refine ⟨trivial, (fun h => by cases h), ?_⟩
      refine (callsIn_wide.2 KT.out).mono ?_
      rintro e w1 ⟨rfl, hb⟩
      have D1 := Lib.hid (EM.out.trans (hb.mono EM.out.size))
      have DW := Lib.hid (HO.out.below.trans (D1.out.mono hwz))
      have cn0 := (hb.cell (p := ⟨wo.heap.size, 0, none⟩) lm).trans cm0
      have cn1 := (hb.cell (p := ⟨wo.heap.size, 1, none⟩) lm).trans cm1
      have cby := (hb.cell (p := ⟨BR, 0, none⟩) (Nat.lt_trans lbr lm)).trans cbx
      have HN1 := Lib.hid ((hb.block _ lm).trans HNm.out)
      have HBx := Lib.hid ((D1.out.block _ lbr).trans HO.out.box)
      have hd1 := D1.out.size
      obtain ⟨r, pre, hpre, hj, hbrr⟩ := HO.out.own
      have HJ1 := Lib.hid (abides_on HJ.out (s := (r, pre)) hj D1.out)
      have HPr := Lib.hid hpre
      have HBr := Lib.hid hbrr
      have HMr : Hid (some wo.heap.size ≠ r) := Lib.hid (fun e => by have := HJr.out r pre wo hj _ e.symm; omega)
      clear hb hj hpre hbrr
      by_cases hz0 : z < 0
      · have hs1 := HS1.out hz0
        subst hs1
        have hy0 := HNx.out 0 (by simp) pre ⟨some m, q, m.a.length, cq⟩ (by simpa using HPr.out) rfl
        have HY0 := Lib.hid hy0
        have hY1 : YieldAt Fence.wide (n - 1) Try.prog lp #[.agg #[.int .u8 m.c.toNat, .slice q m.a.length cq], .int .i64 0] w1 (TellR w0.heap.size B J Jx r (pre ++ [⟨some m, q, m.a.length, cq⟩]) w1) :=
          HY.out r pre ⟨some m, q, m.a.length, cq⟩ w1 HJ1.out (l_own_later HA.out DW.out) hy0.1
        obtain ⟨fn, tmps, assign, body, hy, hR⟩ := hY1
        clear hy0
        gi_wp2_with fail
        refine ⟨(fun h => by cases h), ?_⟩
        refine hR.mono ?_
        rintro e W3 (⟨rfl, r', hk3, hJ3⟩ | ⟨rfl, hJx3⟩)
        · have HT : Hid (OutI w0 BR B (.slice p l.length cap) l u J (i + 1) W3) := Lib.hid ⟨hlt, ⟨r', _, by rw [HY0.out.2.1, ← HEn.out]; rfl, hJ3, keep_row hk3 (lt_of_block HBx.out) HBr.out⟩, DW.out.trans hk3.below, hk3.keep _ _ HBx.out rfl hBR HBr.out, by have := hk3.below.size; omega⟩
          clear hk3 hJ3 hR hy
          gi_wp2_with fail
          go_roundw
          case rel => exact ⟨i + 1, by go_num, HT.out⟩
          case measure => simp [intOf]; omega
        · have HJ3 := Lib.hid hJx3
          clear hJx3 hR hy
          gi_wp2_with fail
          exact bodyPost_ret (results_none rfl _ _ _) rfl ⟨⟨_, rfl⟩, .inr ⟨_, HY0.out.2.2, HJ3.out⟩⟩
      · obtain ⟨kk, hkk⟩ : ∃ kk : Nat, z = (kk : Int) := ⟨z.toNat, by omega⟩
        subst hkk
        obtain ⟨hkl, hfit⟩ := first_fit' HZ.out
        have hs2 := HS2.out kk rfl hkl
        have HRr := Lib.hid (HRu.out _ (List.getElem_mem hkl))
        have HSm := Lib.hid (HS.out _ (List.getElem_mem hkl))
        have HAr := Lib.hid (fit_ar' hfit)
        obtain ⟨b3, off3, cap3, gq, gc, o, oc, hp3, lb3, hat⟩ := H1.out.at hkl
        obtain rfl : p = some ⟨b3, off3, none⟩ := by cases hp3; rfl
        have x6 := (DW.out.cell (p := ⟨b3, off3 + kk * 7 + 6, none⟩) lb3).trans hat.c6
        have HOs := Lib.hid hat.out
        have k7 : (kk : Int) < (l.length : Int) := by omega
        obtain ⟨rr, hrr⟩ : ∃ rr, l[kk] = rr := ⟨_, rfl⟩
        rw [hrr] at hs2 HRr HSm HAr x6 HOs
        have hro30 : rr.out.length ≤ 30 := HSm.out.2.1
        clear hp3 hat hfit hrr
        subst hs2
        have hlen : (rr.out.map (shO · m.a)).length = rr.out.length := List.length_map _
        have I0 : Hid (InI w0 BR wo.heap.size (.cells #[.int .u8 m.c.toNat, .slice q m.a.length cq] 27 (0, 0)) (.slice (some ⟨b3, off3, none⟩) l.length cap) l u (rr.out.map (shO · m.a)) i J 0 w1) :=
          Lib.hid ⟨Nat.zero_le _, ⟨r, pre, by simpa using HPr.out, HJ1.out, HBr.out, HMr.out⟩, DW.out, HBx.out, HN1.out⟩
        gi_wp2_with fail
        gi_loopw [30] (fun iv wn => ∃ k : Nat, iv = .int .i64 k ∧ InI w0 BR wo.heap.size (.cells #[.int .u8 m.c.toNat, .slice q m.a.length cq] 27 (0, 0)) (.slice (some ⟨b3, off3, none⟩) l.length cap) l u (rr.out.map (shO · m.a)) i J k wn) (fun iv _ => rr.out.length - (intOf iv).toNat)
        case atStart => exact ⟨0, rfl, I0.out⟩
        case round =>
          rename World => wn
          obtain ⟨k, rfl, hIn⟩ := hrel
          have HIn := Lib.hid hIn
          have hkn := hIn.hk
          rw [hlen] at hkn
          have cd1 := cell_two1 hIn.mod
          have ld := lt_of_block hIn.mod
          have hnz := hIn.below.size
          clear hIn
          by_cases hlk : k < rr.out.length
          · have k2 : (k : Int) < (rr.out.length : Int) := by omega
            obtain ⟨bs, os, cs, qf, cf, hp, f0, f1, hin, lbs⟩ := (HOs.out.later HIn.out.below).at hlk
            obtain rfl : o = some ⟨bs, os, none⟩ := by cases hp; rfl
            have hk2 : k < (rr.out.map (shO · m.a)).length := by rw [hlen]; exact hlk
            have HNy := Lib.hid (HNx.out k hk2)
            have hget : (rr.out.map (shO · m.a))[k] = shO rr.out[k] m.a := by simp
            rw [hget] at HNy
            have hfo : ∀ f ∈ rr.out[k].a, formB f (m.a.length : Int) = true := by
              have h := rule_forms' HRr.out _ (List.getElem_mem hlk)
              rw [HAr.out] at h; exact h
            have ha10 := (HSm.out.2.2.2 _ (List.getElem_mem hlk)).1
            obtain ⟨s, hs⟩ : ∃ s, rr.out[k] = s := ⟨_, rfl⟩
            rw [hs] at f0 f1 hin HNy hfo ha10
            obtain ⟨Ws, hWs⟩ : ∃ W, W = wn.alloc (.cells #[.int .u8 s.c.toNat, .slice qf s.a.length cf] 56) := ⟨_, rfl⟩
            have bs2 : Below wn.heap.size wn Ws := by rw [hWs]; exact (Below.refl _ _).alloc (Nat.le_refl _) _
            have ES := Lib.hid bs2
            have KF := Lib.hid (filled_any s m.a (.slice qf s.a.length cf) (.slice q m.a.length cq) ha10 hfo (fine70_of HFi.out) Ws (hin.later bs2) ((HI.out.later HIn.out.below).later bs2))
            obtain ⟨r2, pre2, hpre2, hj2, hbr2, hmb2⟩ := HIn.out.own
            have HP2 := Lib.hid hpre2
            have HB2 := Lib.hid hbr2
            have HM2 := Lib.hid hmb2
            have HJ2 := Lib.hid hj2
            clear hp hin hget hs hfo bs2 hpre2 hbr2 hmb2 hj2
            gi_wp2_with fail
            rw [← hWs]
            clear hWs
            refine ⟨trivial, (fun h => by cases h), ?_⟩
            refine (callsIn_wide.2 KF.out).mono ?_
            rintro e w5 ⟨hb, ⟨hno, rfl⟩ | ⟨hyes, v, rfl, hown⟩⟩
            · have hy0 := HNy.out pre2 ⟨none, none, 0, 0⟩ HP2.out (by unfold shO; rw [hno]; rfl)
              have HY0 := Lib.hid hy0
              have DF := Lib.hid (ES.out.trans (hb.mono ES.out.size))
              have DW5 := Lib.hid (HIn.out.below.trans (DF.out.mono hnz))
              have HM5 := Lib.hid ((DF.out.block _ ld).trans HIn.out.mod)
              have HX5 := Lib.hid ((DF.out.block _ (lt_of_block HIn.out.box)).trans HIn.out.box)
              have HJ5 := Lib.hid (abides_on HJ.out (s := (r2, pre2)) HJ2.out DF.out)
              have hdz := DF.out.size
              have hY1 : YieldAt Fence.wide (n - 1) Try.prog lp #[.agg #[.int .u8 0, .slice none 0 0], .int .i64 16] w5 (TellR w0.heap.size B J Jx r2 (pre2 ++ [⟨none, none, 0, 0⟩]) w5) :=
                HY.out r2 pre2 ⟨none, none, 0, 0⟩ w5 HJ5.out (rfl) hy0.1
              obtain ⟨fn, tmps, assign, body, hy, hR⟩ := hY1
              clear hy0 hb
              gi_wp2_with fail
              refine ⟨(fun h => by cases h), ?_⟩
              refine hR.mono ?_
              rintro e W3 (⟨rfl, r', hk3, hJ3⟩ | ⟨rfl, hJx3⟩)
              · have HT : Hid (InI w0 BR wo.heap.size (.cells #[.int .u8 m.c.toNat, .slice q m.a.length cq] 27 (0, 0)) (.slice (some ⟨b3, off3, none⟩) l.length cap) l u (rr.out.map (shO · m.a)) i J (k + 1) W3) :=
                  Lib.hid ⟨by omega, ⟨r', _, HY0.out.2.1, hJ3, keep_row hk3 (lt_of_block HX5.out) HB2.out, keep_row hk3 (lt_of_block HM5.out) HM2.out⟩, DW5.out.trans hk3.below, hk3.keep _ _ HX5.out rfl hBR HB2.out, hk3.keep _ _ HM5.out rfl (by omega) HM2.out⟩
                clear hk3 hJ3 hR hy
                gi_wp2_with fail
                go_roundw
                case rel => exact ⟨k + 1, by go_num, HT.out⟩
                case measure => simp [intOf]; omega
              · have HJ3 := Lib.hid hJx3
                clear hJx3 hR hy
                gi_wp2_with fail
                exact bodyPost_ret (results_none rfl _ _ _) rfl ⟨⟨_, rfl⟩, .inr ⟨_, HY0.out.2.2, HJ3.out⟩⟩
            · obtain ⟨pv, cv, rfl⟩ := fr_slice hown
              have hy0 := HNy.out pre2 ⟨some (mkM s m.a), pv, s.a.length, cv⟩ HP2.out (by unfold shO; rw [hyes]; rfl)
              have HY0 := Lib.hid hy0
              have DF := Lib.hid (ES.out.trans (hb.mono ES.out.size))
              have DW5 := Lib.hid (HIn.out.below.trans (DF.out.mono hnz))
              have HM5 := Lib.hid ((DF.out.block _ ld).trans HIn.out.mod)
              have HX5 := Lib.hid ((DF.out.block _ (lt_of_block HIn.out.box)).trans HIn.out.box)
              have HJ5 := Lib.hid (abides_on HJ.out (s := (r2, pre2)) HJ2.out DF.out)
              have hdz := DF.out.size
              have hY1 : YieldAt Fence.wide (n - 1) Try.prog lp #[.agg #[.int .u8 s.c.toNat, .slice pv s.a.length cv], .int .i64 0] w5 (TellR w0.heap.size B J Jx r2 (pre2 ++ [⟨some (mkM s m.a), pv, s.a.length, cv⟩]) w5) :=
                HY.out r2 pre2 ⟨some (mkM s m.a), pv, s.a.length, cv⟩ w5 HJ5.out (at_made hown (by have := ES.out.size; omega)) hy0.1
              obtain ⟨fn, tmps, assign, body, hy, hR⟩ := hY1
              clear hy0 hb
              gi_wp2_with fail
              refine ⟨(fun h => by cases h), ?_⟩
              refine hR.mono ?_
              rintro e W3 (⟨rfl, r', hk3, hJ3⟩ | ⟨rfl, hJx3⟩)
              · have HT : Hid (InI w0 BR wo.heap.size (.cells #[.int .u8 m.c.toNat, .slice q m.a.length cq] 27 (0, 0)) (.slice (some ⟨b3, off3, none⟩) l.length cap) l u (rr.out.map (shO · m.a)) i J (k + 1) W3) :=
                  Lib.hid ⟨by omega, ⟨r', _, HY0.out.2.1, hJ3, keep_row hk3 (lt_of_block HX5.out) HB2.out, keep_row hk3 (lt_of_block HM5.out) HM2.out⟩, DW5.out.trans hk3.below, hk3.keep _ _ HX5.out rfl hBR HB2.out, hk3.keep _ _ HM5.out rfl (by omega) HM2.out⟩
                clear hk3 hJ3 hR hy
                gi_wp2_with fail
                go_roundw
                case rel => exact ⟨k + 1, by go_num, HT.out⟩
                case measure => simp [intOf]; omega
              · have HJ3 := Lib.hid hJx3
                clear hJx3 hR hy
                gi_wp2_with fail
                exact bodyPost_ret (results_none rfl _ _ _) rfl ⟨⟨_, rfl⟩, .inr ⟨_, HY0.out.2.2, HJ3.out⟩⟩
          · have hke : k = rr.out.length := by omega
            have k2 : ¬ (k : Int) < (rr.out.length : Int) := by omega
            obtain ⟨r2, pre2, hpre2, hj2, hbr2, hmb2⟩ := HIn.out.own
            have HT : Hid (OutI w0 BR B (.slice (some ⟨b3, off3, none⟩) l.length cap) l u J (i + 1) wn) := Lib.hid ⟨hlt, ⟨r2, pre2, by rw [hpre2, ← HEn.out, hke, hlen], hj2, hbr2⟩, HIn.out.below, HIn.out.box, by omega⟩
            clear hpre2 hj2 hbr2 hmb2 hke
            gi_wp2_with fail
            go_roundw
            case rel => exact ⟨i + 1, by go_num, HT.out⟩
            case measure => simp [intOf]; omega
    · obtain rfl : i = u.length := by omega
      have HE := Lib.hid HO.out.own
      rw [List.take_length] at HE
      gi_wp2
      go_end0
      obtain ⟨r, pre, e1, e2, e3⟩ := HE.out
      exact ⟨⟨_, rfl⟩, .inl ⟨r, pre, e1, e2⟩⟩
end Go.Proofs.Ytkjjehnfibfngaa
