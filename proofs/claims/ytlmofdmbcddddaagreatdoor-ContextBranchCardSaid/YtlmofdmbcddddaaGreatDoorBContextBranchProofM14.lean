/-
  Texts of the proof, merged: BRewPrI, BRewPrJ.
-/
import Derived.Test.YtlmofdmbcddddaaGreatDoorBContextBranchProofM13
import Derived.Test.YtlmofdmbcddddaaGreatDoorBContextBranchProofM4
import Derived.Maps.OwnIn
namespace Go.Proofs.YtlmofdmbcddddaaGreatDoor
open Go.RowKit Go.Shelf
open WM RM
set_option linter.unusedVariables false
set_option linter.unusedSimpArgs false
attribute [local go_sem] Oper.semAt_some

/-- What the iterator hands on: a module (or none, where an arg is out of range) and its args' slice. -/
structure Yx where
  o : Option Md
  p : Option Addr
  n : Nat
  c : Nat
abbrev Yx.v (x : Yx) : Value := .slice x.p x.n x.c
def Yx.cn (x : Yx) : Int := match x.o with | some m => m.c.toNat | none => 0
def Yx.er (x : Yx) : Int := match x.o with | some _ => 0 | none => 16
def yV (x : Yx) : Array Value := #[.agg #[.int .u8 x.cn, x.v], .int .i64 x.er]
def Yx.at (b0 : Nat) (x : Yx) (W : World) : Prop := match x.o with | some m => W.ownsRow b0 3 1 x.v m.a.length (valsL m.a) | none => x.v = .slice none 0 0
theorem seq_cut {l : List Rw} {u : List Md} {i : Nat} (hi : i < u.length) : seqO l u = seqO l (u.take i) ++ (sucO l u[i] ++ seqO l (u.drop (i + 1))) := by
  have e : u = u.take i ++ (u[i] :: u.drop (i + 1)) := by rw [← List.drop_eq_getElem_cons hi, List.take_append_drop]
  have : seqO l u = seqO l (u.take i ++ (u[i] :: u.drop (i + 1))) := by rw [← e]
  rw [this]
  unfold seqO
  rw [List.flatMap_append, List.flatMap_cons]
theorem seq_pre {l : List Rw} {u : List Md} {i k : Nat} (hi : i < u.length) : seqO l (u.take i) ++ (sucO l u[i]).take k <+: seqO l u := by
  rw [seq_cut hi]
  refine ⟨(sucO l u[i]).drop k ++ seqO l (u.drop (i + 1)), ?_⟩
  rw [List.append_assoc]
  congr 1
  rw [← List.append_assoc, List.take_append_drop]
theorem seq_step {l : List Rw} {u : List Md} {i k : Nat} (hi : i < u.length) (hk : k < (sucO l u[i]).length) {pre : List Yx} (hp : pre.map Yx.o = seqO l (u.take i) ++ (sucO l u[i]).take k) {x : Yx} (hx : x.o = (sucO l u[i])[k]) :
    pre.length < (seqO l u).length ∧ (pre ++ [x]).map Yx.o = seqO l (u.take i) ++ (sucO l u[i]).take (k + 1) ∧ (pre ++ [x]).map Yx.o <+: seqO l u := by
  have h2 : (pre ++ [x]).map Yx.o = seqO l (u.take i) ++ (sucO l u[i]).take (k + 1) := by
    rw [List.map_append, hp, List.map_cons, List.map_nil, hx, List.take_succ_eq_append_getElem hk, List.append_assoc]
  have h3 : (pre ++ [x]).map Yx.o <+: seqO l u := by rw [h2]; exact seq_pre hi
  refine ⟨?_, h2, h3⟩
  have := h3.length_le
  rw [List.length_map, List.length_append] at this
  simp at this; omega
theorem seq_end {l : List Rw} {u : List Md} {i : Nat} (hi : i < u.length) : seqO l (u.take i) ++ (sucO l u[i]).take (sucO l u[i]).length = seqO l (u.take (i + 1)) := by rw [List.take_length, seqO_snoc hi]
theorem abides_on {β : Type} {B : Nat} {J : β → World → Prop} (h : AbidesFrom B J) {s : β} {W W' : World} (hj : J s W) (hb : Below W.heap.size W W') : J s W' := h s W W' none hj (grown_of_below hb none) (fun r e => by cases e)
theorem keep_row {r r' : Option Nat} {N0 B k : Nat} {W W' : World} (h : StepK N0 B r r' W W') (hk : k < W.heap.size) (hr : some k ≠ r) : some k ≠ r' := by
  rcases h.row with e | e
  · rw [e]; exact hr
  · intro e2
    have := e k e2.symm; omega
theorem at_made {b0 N : Nat} {w : World} {s : Sh} {x : List Int} {pv : Option Addr} {cv : Nat} (h : w.ownsRow N 3 1 (.slice pv s.a.length cv) s.a.length (valsL (s.a.map (worth · x)))) (hb : b0 ≤ N) : (⟨some (mkM s x), pv, s.a.length, cv⟩ : Yx).at b0 w := by
  have e : (mkM s x).a.length = s.a.length := by simp [mkM]
  show w.ownsRow b0 3 1 (.slice pv s.a.length cv) (mkM s x).a.length (valsL (mkM s x).a)
  rw [e]
  exact owns_mono h hb
theorem first_fit' {l : List Rw} {m : Md} : ∀ {k : Nat}, first l m = (k : Int) → ∃ hk : k < l.length, fitB l[k] m = true := by
  have key : ∀ (l : List Rw) (i : Int) (k : Nat), firstF l m i = i + k → 0 ≤ i → ∃ hk : k < l.length, fitB l[k] m = true := by
    intro l
    induction l with
    | nil => intro i k h h0; simp [firstF] at h; omega
    | cons r l ih =>
      intro i k h h0
      unfold firstF at h
      by_cases hf : fitB r m = true
      · rw [if_pos hf] at h
        obtain rfl : k = 0 := by omega
        exact ⟨by simp, hf⟩
      · rw [if_neg hf] at h
        cases k with
        | zero =>
          exfalso
          rcases firstF_rng l m (i + 1) with h2 | ⟨h2, _⟩
          · omega
          · omega
        | succ k =>
          obtain ⟨hk, h3⟩ := ih (i + 1) k (by omega) (by omega)
          exact ⟨by simp; omega, by simpa using h3⟩
  intro k h
  exact key l 0 k (by unfold first at h; omega) (by omega)
theorem fit_ar' {r : Rw} {m : Md} (h : fitB r m = true) : r.ar = (m.a.length : Int) := by
  unfold fitB at h
  simp only [Bool.and_eq_true, decide_eq_true_eq] at h
  exact h.1.2
theorem rule_forms' {r : Rw} (h : ruleB r = true) : ∀ s ∈ r.out, ∀ f ∈ s.a, formB f r.ar = true := by
  unfold ruleB at h
  simp only [Bool.and_eq_true] at h
  intro s hs f hf
  have h1 := List.all_eq_true.1 h.1.2 s hs
  unfold shB at h1
  simp only [Bool.and_eq_true] at h1
  exact List.all_eq_true.1 h1.2 f hf
/-- Where the loop over the word stands. -/
structure OutI (w0 : World) (BR B : Nat) (vr : Value) (l : List Rw) (u : List Md) (J : Option Nat → List Yx → World → Prop) (i : Nat) (wr : World) : Prop where
  hi : i ≤ u.length
  own : ∃ r pre, pre.map Yx.o = seqO l (u.take i) ∧ J r pre wr ∧ some BR ≠ r
  below : Below w0.heap.size w0 wr
  box : wr.heap[BR]? = some (.cells #[vr] 33 (0, 0))
  hB : B < wr.heap.size
/-- Where the loop over a rule's shapes stands. -/
structure InI (w0 : World) (BR mb : Nat) (mo : Obj) (vr : Value) (l : List Rw) (u : List Md) (sq : List (Option Md)) (i : Nat) (J : Option Nat → List Yx → World → Prop) (k : Nat) (wr : World) : Prop where
  hk : k ≤ sq.length
  own : ∃ r pre, pre.map Yx.o = seqO l (u.take i) ++ sq.take k ∧ J r pre wr ∧ some BR ≠ r ∧ some mb ≠ r
  below : Below w0.heap.size w0 wr
  box : wr.heap[BR]? = some (.cells #[vr] 33 (0, 0))
  mod : wr.heap[mb]? = some mo
theorem cell_box {w : World} {b : Nat} {x : Value} {t : TypeId} (h : w.heap[b]? = some (.cells #[x] t (0, 0))) : w.cell? ⟨b, 0, none⟩ = some x := by simp [World.cell?, h]
set_option maxRecDepth 100000 in
set_option maxHeartbeats 6400000 in
theorem succ1_in (n lp BR BW B b0 : Nat) (w0 : World) (p : Option Addr) (cap : Nat) (l : List Rw) (hl : l.length ≤ 9223372036854775807) (hs : ∀ r ∈ l, RwSm r) (hru : ∀ r ∈ l, ruleB r = true)
    (wv : Value) (u : List Md) (us : List Value) (hu : u.length ≤ 2100) (huf : ∀ m ∈ u, fineB m = true) (hb0 : b0 ≤ w0.heap.size) (h1 : Rws w0 (.slice p l.length cap) l) (h2 : ModFr w0 b0 wv u us)
    (J : Option Nat → List Yx → World → Prop) (Jx : List Yx → World → Prop) (BB : Nat) (hJ : AbidesFrom BB (fun (s : Option Nat × List Yx) => J s.1 s.2)) (hJr : ∀ r pre W1, J r pre W1 → ∀ g, r = some g → g < W1.heap.size)
    (hY : ∀ r pre x W1, J r pre W1 → x.at b0 W1 → pre.length < (seqO l u).length → YieldAt Fence.wide (n - 1) Tryz.prog lp (yV x) W1 (TellR w0.heap.size B J Jx r (pre ++ [x]) W1))
    (W : World) (hW : Below w0.heap.size w0 W) (hbr : W.heap[BR]? = some (.cells #[.slice p l.length cap] 33 (0, 0))) (hbw : W.cell? ⟨BW, 0, none⟩ = some wv) (hBR : BR ≠ B) (hBl : B < W.heap.size) (h0 : J none [] W) :
    CallsIn Fence.wide n Tryz.prog 128 #[.func (.yield lp) #[] #[], .pointer (some ⟨BW, 0, none⟩), .pointer (some ⟨BR, 0, none⟩)] W fun e W' => (∃ v, e = .returned v) ∧ ((∃ r xs, xs.map Yx.o = seqO l u ∧ J r xs W') ∨ (∃ pre, pre.map Yx.o <+: seqO l u ∧ Jx pre W')) := by
  refine callsIn_of_wp Tryz.func128 rfl trivial ?_ rfl
  simp only [Tryz.ntmps128, List.size_toArray, List.length_cons, List.length_nil, Nat.reduceAdd, Nat.reduceSub, Array.replicate_succ, Array.replicate_zero, List.push_toArray, List.append_toArray, List.nil_append, List.cons_append]
  have HY := Lib.hid hY
  have HJ := Lib.hid hJ
  have HJr := Lib.hid hJr
  have HS := Lib.hid hs
  have HRu := Lib.hid hru
  have HUf := Lib.hid huf
  have H1 := Lib.hid h1
  have H2 := Lib.hid h2
  have O0 : Hid (OutI w0 BR B (.slice p l.length cap) l u J 0 W) := Lib.hid ⟨Nat.zero_le _, ⟨none, [], by simp [seqO], h0, by simp⟩, hW, hbr, hBl⟩
  obtain ⟨pw, cw, hwv⟩ := fr_slice h2.row
  subst hwv
  clear hY hJ hJr hs hru huf h1 h2 h0 hW hbr
  gi_wp2
  gi_loopw [11] (fun iv wr => ∃ i : Nat, iv = .int .i64 i ∧ OutI w0 BR B (.slice p l.length cap) l u J i wr) (fun iv _ => u.length - (intOf iv).toNat)
  case atStart => exact ⟨0, rfl, O0.out⟩
  case round =>
    rename World => wo
    obtain ⟨i, rfl, hO⟩ := hrel
    have HO := Lib.hid hO
    have hiu := hO.hi
    have hbx := cell_box hO.box
    have lbr := lt_of_block hO.box
    have hBl2 := hO.hB
    have hwz := hO.below.size
    clear hO
    by_cases hlt : i < u.length
    · have k1 : (i : Int) < (u.length : Int) := by omega
      obtain ⟨g, rfl⟩ : ∃ g, pw = some ⟨g, 0, none⟩ := by
        rcases H2.out.row.2 with ⟨_, h⟩ | ⟨g, c, cur, h, _⟩
        · omega
        · cases h; exact ⟨g, rfl⟩
      have hi2 : i < us.length := by rw [H2.out.len]; exact hlt
      have hro := (H2.out.later HO.out.below).row
      have e0 := hro.cellAt (i * 2) (by omega)
      have e1 := hro.cellAt (i * 2 + 1) (by omega)
      rw [(modC_get u us i hlt hi2).1] at e0
      rw [(modC_get u us i hlt hi2).2] at e1
      have HA := Lib.hid (H2.out.args i hlt hi2).own
      obtain ⟨q, cq, hq⟩ := fr_slice HA.out
      have HI := Lib.hid (ints_of_owned HA.out)
      rw [hq] at e1 HA HI
      have hfi := HUf.out _ (List.getElem_mem hlt)
      have HNx : Hid (∀ (k : Nat) (hk : k < (sucO l u[i]).length) (pre : List Yx) (x : Yx), pre.map Yx.o = seqO l (u.take i) ++ (sucO l u[i]).take k → x.o = (sucO l u[i])[k] → pre.length < (seqO l u).length ∧ (pre ++ [x]).map Yx.o = seqO l (u.take i) ++ (sucO l u[i]).take (k + 1) ∧ (pre ++ [x]).map Yx.o <+: seqO l u) := Lib.hid (fun k hk pre x h1 h2 => seq_step hlt hk h1 h2)
      have HEn := Lib.hid (seq_end (l := l) hlt)
      have HS1 : Hid (first l u[i] < 0 → sucO l u[i] = [some u[i]]) := Lib.hid sucO_self
      have HS2 : Hid (∀ k : Nat, first l u[i] = (k : Int) → ∀ hk : k < l.length, sucO l u[i] = l[k].out.map (shO · u[i].a)) := Lib.hid (fun k h hk => sucO_made h hk)
      obtain ⟨sq, hsq⟩ : ∃ sq, sucO l u[i] = sq := ⟨_, rfl⟩
      have HSq := Lib.hid hsq
      rw [hsq] at HNx HEn HS1 HS2
      obtain ⟨m, hm⟩ : ∃ m, u[i] = m := ⟨_, rfl⟩
      rw [hm] at e0 e1 HA HI hfi HS1 HS2
      have HFi := Lib.hid hfi
      obtain ⟨Wm, hWm⟩ : ∃ W, W = wo.alloc (.cells #[.int .u8 m.c.toNat, .slice q m.a.length cq] 27) := ⟨_, rfl⟩
      have Nm : Wm.heap[wo.heap.size]? = some (.cells #[.int .u8 m.c.toNat, .slice q m.a.length cq] 27 (0, 0)) := by rw [hWm]; exact heap_alloc_new _ _
      have bm : Below wo.heap.size wo Wm := by rw [hWm]; exact (Below.refl _ _).alloc (Nat.le_refl _) _
      have HNm := Lib.hid Nm
      have EM := Lib.hid bm
      have KT := Lib.hid (prfirst_any (.slice p l.length cap) l m (.slice q m.a.length cq) hl (fun r hr => ⟨rule_guards (HRu.out r hr), by have := (HS.out r hr).1; omega⟩) hfi Wm ((H1.out.later HO.out.below).later bm) ((HI.out.later HO.out.below).later bm))
      obtain ⟨z, hz⟩ : ∃ z, first l m = z := ⟨_, rfl⟩
      have HZ := Lib.hid hz
      rw [hz] at KT HS1 HS2
      have cm0 := cell_two0 Nm
      have cm1 := cell_two1 Nm
      have cbx := (bm.cell (p := ⟨BR, 0, none⟩) lbr).trans hbx
      have lm := lt_of_block Nm
      clear hro hq Nm bm hfi hz hsq hm
      gi_wp2_with fail
      rw [← hWm]
      clear hWm
      refine ⟨trivial, (fun h => by cases h), ?_⟩
      refine (callsIn_wide.2 KT.out).mono ?_
      rintro e w1 ⟨rfl, hb⟩
      have D1 := Lib.hid (EM.out.trans (hb.mono EM.out.size))
      have DW := Lib.hid (HO.out.below.trans (D1.out.mono hwz))
      have cn0 := (hb.cell (p := ⟨wo.heap.size, 0, none⟩) lm).trans cm0
      have cn1 := (hb.cell (p := ⟨wo.heap.size, 1, none⟩) lm).trans cm1
      have cby := (hb.cell (p := ⟨BR, 0, none⟩) (Nat.lt_trans lbr lm)).trans cbx
      have HN1 := Lib.hid ((hb.block _ lm).trans HNm.out)
      have HBx := Lib.hid ((D1.out.block _ lbr).trans HO.out.box)
      have hd1 := D1.out.size
      obtain ⟨r, pre, hpre, hj, hbrr⟩ := HO.out.own
      have HJ1 := Lib.hid (abides_on HJ.out (s := (r, pre)) hj D1.out)
      have HPr := Lib.hid hpre
      have HBr := Lib.hid hbrr
      have HMr : Hid (some wo.heap.size ≠ r) := Lib.hid (fun e => by have := HJr.out r pre wo hj _ e.symm; omega)
      clear hb hj hpre hbrr
      by_cases hz0 : z < 0
      · have hs1 := HS1.out hz0
        subst hs1
        have hy0 := HNx.out 0 (by simp) pre ⟨some m, q, m.a.length, cq⟩ (by simpa using HPr.out) rfl
        have HY0 := Lib.hid hy0
        have hY1 : YieldAt Fence.wide (n - 1) Tryz.prog lp #[.agg #[.int .u8 m.c.toNat, .slice q m.a.length cq], .int .i64 0] w1 (TellR w0.heap.size B J Jx r (pre ++ [⟨some m, q, m.a.length, cq⟩]) w1) :=
          HY.out r pre ⟨some m, q, m.a.length, cq⟩ w1 HJ1.out (l_own_later HA.out DW.out) hy0.1
        obtain ⟨fn, tmps, assign, body, hy, hR⟩ := hY1
        clear hy0
        gi_wp2_with fail
        refine ⟨(fun h => by cases h), ?_⟩
        refine hR.mono ?_
        rintro e W3 (⟨rfl, r', hk3, hJ3⟩ | ⟨rfl, hJx3⟩)
        · have HT : Hid (OutI w0 BR B (.slice p l.length cap) l u J (i + 1) W3) := Lib.hid ⟨hlt, ⟨r', _, by rw [HY0.out.2.1, ← HEn.out]; rfl, hJ3, keep_row hk3 (lt_of_block HBx.out) HBr.out⟩, DW.out.trans hk3.below, hk3.keep _ _ HBx.out rfl hBR HBr.out, by have := hk3.below.size; omega⟩
          clear hk3 hJ3 hR hy
          gi_wp2_with fail
          go_roundw
          case rel => exact ⟨i + 1, by go_num, HT.out⟩
          case measure => simp [intOf]; omega
        · have HJ3 := Lib.hid hJx3
          clear hJx3 hR hy
          gi_wp2_with fail
          exact bodyPost_ret (results_none rfl _ _ _) rfl ⟨⟨_, rfl⟩, .inr ⟨_, HY0.out.2.2, HJ3.out⟩⟩
      · obtain ⟨kk, hkk⟩ : ∃ kk : Nat, z = (kk : Int) := ⟨z.toNat, by omega⟩
        subst hkk
        obtain ⟨hkl, hfit⟩ := first_fit' HZ.out
        have hs2 := HS2.out kk rfl hkl
        have HRr := Lib.hid (HRu.out _ (List.getElem_mem hkl))
        have HSm := Lib.hid (HS.out _ (List.getElem_mem hkl))
        have HAr := Lib.hid (fit_ar' hfit)
        obtain ⟨b3, off3, cap3, gq, gc, o, oc, hp3, lb3, hat⟩ := H1.out.at hkl
        obtain rfl : p = some ⟨b3, off3, none⟩ := by cases hp3; rfl
        have x6 := (DW.out.cell (p := ⟨b3, off3 + kk * 7 + 6, none⟩) lb3).trans hat.c6
        have HOs := Lib.hid hat.out
        have k7 : (kk : Int) < (l.length : Int) := by omega
        obtain ⟨rr, hrr⟩ : ∃ rr, l[kk] = rr := ⟨_, rfl⟩
        rw [hrr] at hs2 HRr HSm HAr x6 HOs
        have hro30 : rr.out.length ≤ 30 := HSm.out.2.1
        clear hp3 hat hfit hrr
        subst hs2
        have hlen : (rr.out.map (shO · m.a)).length = rr.out.length := List.length_map _
        have I0 : Hid (InI w0 BR wo.heap.size (.cells #[.int .u8 m.c.toNat, .slice q m.a.length cq] 27 (0, 0)) (.slice (some ⟨b3, off3, none⟩) l.length cap) l u (rr.out.map (shO · m.a)) i J 0 w1) :=
          Lib.hid ⟨Nat.zero_le _, ⟨r, pre, by simpa using HPr.out, HJ1.out, HBr.out, HMr.out⟩, DW.out, HBx.out, HN1.out⟩
        gi_wp2_with fail
        gi_loopw [30] (fun iv wn => ∃ k : Nat, iv = .int .i64 k ∧ InI w0 BR wo.heap.size (.cells #[.int .u8 m.c.toNat, .slice q m.a.length cq] 27 (0, 0)) (.slice (some ⟨b3, off3, none⟩) l.length cap) l u (rr.out.map (shO · m.a)) i J k wn) (fun iv _ => rr.out.length - (intOf iv).toNat)
        case atStart => exact ⟨0, rfl, I0.out⟩
        case round =>
          rename World => wn
          obtain ⟨k, rfl, hIn⟩ := hrel
          have HIn := Lib.hid hIn
          have hkn := hIn.hk
          rw [hlen] at hkn
          have cd1 := cell_two1 hIn.mod
          have ld := lt_of_block hIn.mod
          have hnz := hIn.below.size
          clear hIn
          by_cases hlk : k < rr.out.length
          · have k2 : (k : Int) < (rr.out.length : Int) := by omega
            obtain ⟨bs, os, cs, qf, cf, hp, f0, f1, hin, lbs⟩ := (HOs.out.later HIn.out.below).at hlk
            obtain rfl : o = some ⟨bs, os, none⟩ := by cases hp; rfl
            have hk2 : k < (rr.out.map (shO · m.a)).length := by rw [hlen]; exact hlk
            have HNy := Lib.hid (HNx.out k hk2)
            have hget : (rr.out.map (shO · m.a))[k] = shO rr.out[k] m.a := by simp
            rw [hget] at HNy
            have hfo : ∀ f ∈ rr.out[k].a, formB f (m.a.length : Int) = true := by
              have h := rule_forms' HRr.out _ (List.getElem_mem hlk)
              rw [HAr.out] at h; exact h
            have ha10 := (HSm.out.2.2.2 _ (List.getElem_mem hlk)).1
            obtain ⟨s, hs⟩ : ∃ s, rr.out[k] = s := ⟨_, rfl⟩
            rw [hs] at f0 f1 hin HNy hfo ha10
            obtain ⟨Ws, hWs⟩ : ∃ W, W = wn.alloc (.cells #[.int .u8 s.c.toNat, .slice qf s.a.length cf] 49) := ⟨_, rfl⟩
            have bs2 : Below wn.heap.size wn Ws := by rw [hWs]; exact (Below.refl _ _).alloc (Nat.le_refl _) _
            have ES := Lib.hid bs2
            have KF := Lib.hid (filled_any s m.a (.slice qf s.a.length cf) (.slice q m.a.length cq) ha10 hfo (fine70_of HFi.out) Ws (hin.later bs2) ((HI.out.later HIn.out.below).later bs2))
            obtain ⟨r2, pre2, hpre2, hj2, hbr2, hmb2⟩ := HIn.out.own
            have HP2 := Lib.hid hpre2
            have HB2 := Lib.hid hbr2
            have HM2 := Lib.hid hmb2
            have HJ2 := Lib.hid hj2
            clear hp hin hget hs hfo bs2 hpre2 hbr2 hmb2 hj2
            gi_wp2_with fail
            rw [← hWs]
            clear hWs
            refine ⟨trivial, (fun h => by cases h), ?_⟩
            refine (callsIn_wide.2 KF.out).mono ?_
            rintro e w5 ⟨hb, ⟨hno, rfl⟩ | ⟨hyes, v, rfl, hown⟩⟩
            · have hy0 := HNy.out pre2 ⟨none, none, 0, 0⟩ HP2.out (by unfold shO; rw [hno]; rfl)
              have HY0 := Lib.hid hy0
              have DF := Lib.hid (ES.out.trans (hb.mono ES.out.size))
              have DW5 := Lib.hid (HIn.out.below.trans (DF.out.mono hnz))
              have HM5 := Lib.hid ((DF.out.block _ ld).trans HIn.out.mod)
              have HX5 := Lib.hid ((DF.out.block _ (lt_of_block HIn.out.box)).trans HIn.out.box)
              have HJ5 := Lib.hid (abides_on HJ.out (s := (r2, pre2)) HJ2.out DF.out)
              have hdz := DF.out.size
              have hY1 : YieldAt Fence.wide (n - 1) Tryz.prog lp #[.agg #[.int .u8 0, .slice none 0 0], .int .i64 16] w5 (TellR w0.heap.size B J Jx r2 (pre2 ++ [⟨none, none, 0, 0⟩]) w5) :=
                HY.out r2 pre2 ⟨none, none, 0, 0⟩ w5 HJ5.out (rfl) hy0.1
              obtain ⟨fn, tmps, assign, body, hy, hR⟩ := hY1
              clear hy0 hb
              gi_wp2_with fail
              refine ⟨(fun h => by cases h), ?_⟩
              refine hR.mono ?_
              rintro e W3 (⟨rfl, r', hk3, hJ3⟩ | ⟨rfl, hJx3⟩)
              · have HT : Hid (InI w0 BR wo.heap.size (.cells #[.int .u8 m.c.toNat, .slice q m.a.length cq] 27 (0, 0)) (.slice (some ⟨b3, off3, none⟩) l.length cap) l u (rr.out.map (shO · m.a)) i J (k + 1) W3) :=
                  Lib.hid ⟨by omega, ⟨r', _, HY0.out.2.1, hJ3, keep_row hk3 (lt_of_block HX5.out) HB2.out, keep_row hk3 (lt_of_block HM5.out) HM2.out⟩, DW5.out.trans hk3.below, hk3.keep _ _ HX5.out rfl hBR HB2.out, hk3.keep _ _ HM5.out rfl (by omega) HM2.out⟩
                clear hk3 hJ3 hR hy
                gi_wp2_with fail
                go_roundw
                case rel => exact ⟨k + 1, by go_num, HT.out⟩
                case measure => simp [intOf]; omega
              · have HJ3 := Lib.hid hJx3
                clear hJx3 hR hy
                gi_wp2_with fail
                exact bodyPost_ret (results_none rfl _ _ _) rfl ⟨⟨_, rfl⟩, .inr ⟨_, HY0.out.2.2, HJ3.out⟩⟩
            · obtain ⟨pv, cv, rfl⟩ := fr_slice hown
              have hy0 := HNy.out pre2 ⟨some (mkM s m.a), pv, s.a.length, cv⟩ HP2.out (by unfold shO; rw [hyes]; rfl)
              have HY0 := Lib.hid hy0
              have DF := Lib.hid (ES.out.trans (hb.mono ES.out.size))
              have DW5 := Lib.hid (HIn.out.below.trans (DF.out.mono hnz))
              have HM5 := Lib.hid ((DF.out.block _ ld).trans HIn.out.mod)
              have HX5 := Lib.hid ((DF.out.block _ (lt_of_block HIn.out.box)).trans HIn.out.box)
              have HJ5 := Lib.hid (abides_on HJ.out (s := (r2, pre2)) HJ2.out DF.out)
              have hdz := DF.out.size
              have hY1 : YieldAt Fence.wide (n - 1) Tryz.prog lp #[.agg #[.int .u8 s.c.toNat, .slice pv s.a.length cv], .int .i64 0] w5 (TellR w0.heap.size B J Jx r2 (pre2 ++ [⟨some (mkM s m.a), pv, s.a.length, cv⟩]) w5) :=
                HY.out r2 pre2 ⟨some (mkM s m.a), pv, s.a.length, cv⟩ w5 HJ5.out (at_made hown (by have := ES.out.size; omega)) hy0.1
              obtain ⟨fn, tmps, assign, body, hy, hR⟩ := hY1
              clear hy0 hb
              gi_wp2_with fail
              refine ⟨(fun h => by cases h), ?_⟩
              refine hR.mono ?_
              rintro e W3 (⟨rfl, r', hk3, hJ3⟩ | ⟨rfl, hJx3⟩)
              · have HT : Hid (InI w0 BR wo.heap.size (.cells #[.int .u8 m.c.toNat, .slice q m.a.length cq] 27 (0, 0)) (.slice (some ⟨b3, off3, none⟩) l.length cap) l u (rr.out.map (shO · m.a)) i J (k + 1) W3) :=
                  Lib.hid ⟨by omega, ⟨r', _, HY0.out.2.1, hJ3, keep_row hk3 (lt_of_block HX5.out) HB2.out, keep_row hk3 (lt_of_block HM5.out) HM2.out⟩, DW5.out.trans hk3.below, hk3.keep _ _ HX5.out rfl hBR HB2.out, hk3.keep _ _ HM5.out rfl (by omega) HM2.out⟩
                clear hk3 hJ3 hR hy
                gi_wp2_with fail
                go_roundw
                case rel => exact ⟨k + 1, by go_num, HT.out⟩
                case measure => simp [intOf]; omega
              · have HJ3 := Lib.hid hJx3
                clear hJx3 hR hy
                gi_wp2_with fail
                exact bodyPost_ret (results_none rfl _ _ _) rfl ⟨⟨_, rfl⟩, .inr ⟨_, HY0.out.2.2, HJ3.out⟩⟩
          · have hke : k = rr.out.length := by omega
            have k2 : ¬ (k : Int) < (rr.out.length : Int) := by omega
            obtain ⟨r2, pre2, hpre2, hj2, hbr2, hmb2⟩ := HIn.out.own
            have HT : Hid (OutI w0 BR B (.slice (some ⟨b3, off3, none⟩) l.length cap) l u J (i + 1) wn) := Lib.hid ⟨hlt, ⟨r2, pre2, by rw [hpre2, ← HEn.out, hke, hlen], hj2, hbr2⟩, HIn.out.below, HIn.out.box, by omega⟩
            clear hpre2 hj2 hbr2 hmb2 hke
            gi_wp2_with fail
            go_roundw
            case rel => exact ⟨i + 1, by go_num, HT.out⟩
            case measure => simp [intOf]; omega
    · obtain rfl : i = u.length := by omega
      have HE := Lib.hid HO.out.own
      rw [List.take_length] at HE
      gi_wp2
      go_end0
      obtain ⟨r, pre, e1, e2, e3⟩ := HE.out
      exact ⟨⟨_, rfl⟩, .inl ⟨r, pre, e1, e2⟩⟩
end Go.Proofs.YtlmofdmbcddddaaGreatDoor
namespace Go.Proofs.YtlmofdmbcddddaaGreatDoor
open Go.RowKit Go.Shelf
open WM RM
set_option linter.unusedVariables false
set_option linter.unusedSimpArgs false
attribute [local go_sem] Oper.semAt_some

theorem successors_any (v1 v2 : Value) (w : World) (p1 : Option Addr) (n1 c1 : Nat) (p2 : Option Addr) (n2 c2 : Nat) (h1 : v1 = .slice p1 n1 c1) (h2 : v2 = .slice p2 n2 c2) :
    Calls Tryz.prog 118 #[v1, v2] w fun e w' => e = .returned (.func (.func 128) #[] #[.pointer (some ⟨w.heap.size + 1, 0, none⟩), .pointer (some ⟨w.heap.size, 0, none⟩)]) ∧ w' = (w.alloc (.cells #[v1] 33)).alloc (.cells #[v2] 22) := by
  subst h1 h2
  go_enter Tryz.func118, Tryz.ntmps118
  go_wp2_with fail
  go_ret
  exact ⟨by simp, rfl⟩
/-! ### What a word in memory keeps -/
theorem own_turn {W W' : World} {row : Option Nat} {base n size : Nat} {e : TypeId} {v : Value} {xs : List Value} (h : W.ownsRow base e size v n xs) (hg : W.grownBy W' row) (hr : ∀ j, row = some j → ∃ o : Obj, W.heap[j]? = some o ∧ o.isCells = false) : W'.ownsRow base e size v n xs := by
  refine h.kept hg ?_
  rcases h.2 with ⟨rfl, _⟩ | ⟨g, cap, cur, rfl, _, hgb, _⟩
  · exact .inl rfl
  · refine .inr fun e' => ?_
    obtain ⟨o, ho, hc⟩ := hr g (by simpa [Value.ownBlock] using e'.symm)
    rw [hgb] at ho; cases ho; cases hc
theorem mod_turn {W W' : World} {row : Option Nat} {base : Nat} {v : Value} {l : List Md} {vs : List Value} (h : ModFr W base v l vs) (hg : W.grownBy W' row) (hr : ∀ j, row = some j → ∃ o : Obj, W.heap[j]? = some o ∧ o.isCells = false) : ModFr W' base v l vs :=
  ⟨h.len, own_turn h.row hg hr, fun k hk hk2 => ⟨own_turn (h.args k hk hk2).own hg hr, (h.args k hk hk2).apart⟩⟩
theorem typ_apart {w : World} {b1 b2 n1 n2 s1 s2 : Nat} {e1 e2 : TypeId} {v1 v2 : Value} {x1 x2 : List Value} (h1 : w.ownsRow b1 e1 s1 v1 n1 x1) (h2 : w.ownsRow b2 e2 s2 v2 n2 x2) (ne : e1 ≠ e2) : v1 = .slice none 0 0 ∨ v1.ownBlock ≠ v2.ownBlock := by
  rcases h1.2 with ⟨rfl, _⟩ | ⟨g, cap, cur, rfl, _, hg, _⟩
  · exact .inl rfl
  · right
    rcases h2.2 with ⟨rfl, _⟩ | ⟨g2, cap2, cur2, rfl, _, hg2, _⟩
    · simp [Value.ownBlock]
    · intro e
      obtain rfl : g = g2 := by simpa [Value.ownBlock] using e
      rw [hg] at hg2
      cases hg2; exact ne rfl
theorem int_ne_mod : 3 ≠ 27 := by decide
theorem mods_ne_mod : 22 ≠ 27 := by decide
theorem mods_ne_int : 22 ≠ 3 := by decide
theorem err_ne_int : 28 ≠ 3 := by decide
theorem err_ne_mod : 28 ≠ 27 := by decide
/-- A word made longer by one module, whose args lie anywhere. -/
theorem mod_push {base : Nat} {X1 X4 : World} {l : List Md} {m : Md} {v v' v2 : Value} {vs : List Value} (h : ModFr X1 base v l vs) (ha : X1.ownsRow base 3 1 v' m.a.length (valsL m.a))
    (o4 : X4.ownsRow base 27 2 v2 (l.length + 1) (modC l vs ++ [.int .u8 m.c.toNat, v'])) (g4 : X1.grownBy X4 v.ownBlock) : ModFr X4 base v2 (l ++ [m]) (vs ++ [v']) := by
  have keep : ∀ {u : Value} {a : List Int}, X1.ownsRow base 3 1 u a.length (valsL a) → ArgFr X4 base v2.ownBlock u a := fun {u a} hu => by
    have hk := hu.kept g4 (by rcases typ_apart hu h.row int_ne_mod with e | e; · left; rw [e]; rfl
                              · exact .inr e)
    exact ⟨hk, typ_apart hk o4 int_ne_mod⟩
  refine ⟨by rw [List.length_append, List.length_append, h.len]; rfl, by rw [List.length_append, modC_snoc _ _ _ _ h.len.symm]; exact o4, ?_⟩
  intro k hk hk2
  rw [List.length_append, List.length_singleton] at hk
  rcases Nat.lt_or_eq_of_le (Nat.le_of_lt_succ hk) with hlt | heq
  · have hk3 : k < vs.length := by rw [h.len]; exact hlt
    rw [List.getElem_append_left hlt, List.getElem_append_left hk3]
    exact keep (h.args k hlt hk3).own
  · subst heq
    have a1 : (vs ++ [v'])[l.length]'hk2 = v' := by rw [List.getElem_append_right (by rw [h.len]; exact Nat.le_refl _)]; simp
    have a2 : (l ++ [m])[l.length]'(by simp) = m := by simp
    rw [a1, a2]
    exact keep ha
theorem own_box {w : World} {B base n size : Nat} {t e : TypeId} {u v : Value} {xs : List Value} (h : w.ownsRow base e size v n xs) (hb : Boxed w B t u) (hte : t ≠ e) (u' : Value) : (w.setCell ⟨B, 0, none⟩ u').ownsRow base e size v n xs :=
  h.kept (grownBy_setCell' w B u') (.inr (hb.not_row hte h).symm)
theorem mod_box {w : World} {B base : Nat} {u v : Value} {l : List Md} {vs : List Value} (h : ModFr w base v l vs) (hb : Boxed w B 22 u) (u' : Value) : ModFr (w.setCell ⟨B, 0, none⟩ u') base v l vs :=
  ⟨h.len, own_box h.row hb mods_ne_mod u', fun k hk hk2 => ⟨own_box (h.args k hk hk2).own hb mods_ne_int u', (h.args k hk hk2).apart⟩⟩
theorem own_raise {w : World} {b N n size : Nat} {e : TypeId} {v : Value} {xs : List Value} (h : w.ownsRow b e size v n xs) (hg : ∀ g, v.ownBlock = some g → N ≤ g) : w.ownsRow N e size v n xs := by
  refine ⟨h.1, ?_⟩
  rcases h.2 with h | ⟨g, cap, cur, rfl, _, r⟩
  · exact .inl h
  · exact .inr ⟨g, cap, cur, rfl, hg g rfl, r⟩
/-- What step holds between two rounds. -/
structure StI (w : World) (b0 : Nat) (r : Option Nat) (pre : List Yx) (W : World) : Prop where
  own : ∃ v d vs, Boxed W (w.heap.size + 1 + 1) 22 v ∧ v.ownBlock = r ∧ pre.map Yx.o = d.map some ∧ ModFr W b0 v d vs ∧ (∀ g, r = some g → w.heap.size ≤ g)
  r1 : Boxed W w.heap.size 22 (.slice none 0 0)
  r2 : Boxed W (w.heap.size + 1) 28 (.int .i64 0)
  below : Below w.heap.size w W
structure StX (w : World) (pre : List Yx) (W : World) : Prop where
  bad : none ∈ pre.map Yx.o
  r1 : Boxed W w.heap.size 22 (.slice none 0 0)
  r2 : Boxed W (w.heap.size + 1) 28 (.int .i64 16)
  below : Below w.heap.size w W
theorem box_turn {W W' : World} {row : Option Nat} {B : Nat} {t : TypeId} {v : Value} (h : Boxed W B t v) (hg : W.grownBy W' row) (hr : ∀ j, row = some j → ∃ o : Obj, W.heap[j]? = some o ∧ o.isCells = false) : Boxed W' B t v :=
  h.kept hg fun e => by
    obtain ⟨o, ho, hc⟩ := hr B e.symm
    rw [show W.heap[B]? = _ from h] at ho; cases ho; cases hc
theorem stI_own (w : World) (b0 N : Nat) (hN : w.heap.size ≤ N) : OwnFrom N (fun (s : Option Nat × List Yx) => StI w b0 s.1 s.2) := by
  rintro ⟨r, pre⟩ W W' row ⟨⟨v, d, vs, h1, h2, h3, h4, h5⟩, h6, h7, h8⟩ hg hr
  have hr2 : ∀ j, row = some j → ∃ o : Obj, W.heap[j]? = some o ∧ o.isCells = false := fun j e => (hr j e).2
  exact ⟨⟨v, d, vs, box_turn h1 hg hr2, h2, h3, mod_turn h4 hg hr2, h5⟩, box_turn h6 hg hr2, box_turn h7 hg hr2, h8.grown hg h8.size (fun j e => Nat.le_trans hN (hr j e).1)⟩
theorem stX_own (w : World) (N : Nat) (hN : w.heap.size ≤ N) : OwnFrom N (StX w) := by
  rintro pre W W' row ⟨h1, h6, h7, h8⟩ hg hr
  have hr2 : ∀ j, row = some j → ∃ o : Obj, W.heap[j]? = some o ∧ o.isCells = false := fun j e => (hr j e).2
  exact ⟨h1, box_turn h6 hg hr2, box_turn h7 hg hr2, h8.grown hg h8.size (fun j e => Nat.le_trans hN (hr j e).1)⟩
theorem at_own (b0 N : Nat) : OwnFrom N (fun (x : Yx) W => x.at b0 W) := by
  rintro x W W' row h hg hr
  have hr2 : ∀ j, row = some j → ∃ o : Obj, W.heap[j]? = some o ∧ o.isCells = false := fun j e => (hr j e).2
  unfold Yx.at at h ⊢
  split
  · rename_i m hm
    rw [hm] at h
    exact own_turn h hg hr2
  · rename_i hm
    rw [hm] at h
    exact h
theorem stI_row {w : World} {b0 : Nat} {r : Option Nat} {pre : List Yx} {W : World} (h : StI w b0 r pre W) : ∀ g, r = some g → g < W.heap.size := by
  obtain ⟨v, d, vs, _, h2, _, h4, _⟩ := h.own
  intro g e
  exact (owns_lt h4.row g (h2.trans e)).2
/-- step's error and word. -/
def spC (l : List Rw) (u : List Md) : Int := match stepL l u with | none => 16 | some d => if 2000 < d.length then 4 else 0
def spL (l : List Rw) (u : List Md) : List Md := match stepL l u with | none => [] | some d => if 2000 < d.length then [] else d
def SpEnd (l : List Rw) (u : List Md) (b0 : Nat) (w : World) (e : Ending) (w' : World) : Prop := ∃ v vs, e = .returned (.tuple #[v, .int .i64 (spC l u)]) ∧ Below w.heap.size w w' ∧ ModFr w' b0 v (spL l u) vs
set_option maxRecDepth 100000 in
set_option maxHeartbeats 6400000 in
theorem pstep_any (p : Option Addr) (cap : Nat) (l : List Rw) (hl : l.length ≤ 9223372036854775807) (hs : ∀ r ∈ l, RwSm r) (hru : ∀ r ∈ l, ruleB r = true) (hro : ∀ r ∈ l, r.out.length ≤ 20)
    (wv : Value) (u : List Md) (us : List Value) (hu : u.length ≤ 2000) (huf : ∀ m ∈ u, fineB m = true) (b0 : Nat) (w : World) (hb0 : b0 ≤ w.heap.size) (h1 : Rws w (.slice p l.length cap) l) (h2 : ModFr w b0 wv u us) :
    Calls Tryz.prog 103 #[.slice p l.length cap, wv] w (SpEnd l u b0 w) := by
  have HN := Lib.hid (seqO_len hro u)
  have HSeq := Lib.hid (allO_seq l u)
  obtain ⟨pw, cw, rfl⟩ := fr_slice h2.row
  have HIt := Lib.hid (fun (n lp BR BW B : Nat) J Jx BB hJ hJr hY W hW hbr hbw hBR hBl h0 => succ1_in n lp BR BW B b0 w p cap l hl hs hru (.slice pw u.length cw) u us (by omega) huf hb0 h1 h2 J Jx BB hJ hJr hY W hW hbr hbw hBR hBl h0)
  have KS := Lib.hid (fun w => successors_any (.slice p l.length cap) (.slice pw u.length cw) w _ _ _ _ _ _ rfl rfl)
  clear hs hru huf h1 h2 hro
  refine (callsIn_wide (n := 8)).1 ?_
  refine callsIn_of_wp_marks Tryz.func103 rfl trivial ?_ rfl
  simp only [Tryz.ntmps103, List.size_toArray, List.length_cons, List.length_nil, Nat.reduceAdd, Nat.reduceSub, Array.replicate_succ, Array.replicate_zero, List.push_toArray, List.append_toArray, List.nil_append, List.cons_append]
  gi_wp2_with fail
  refine ⟨trivial, ?_⟩
  refine (callsIn_wide.2 (KS.out _)).mono ?_
  rintro e ws ⟨rfl, rfl⟩
  gi_wp2_with fail
  obtain ⟨W0, hW0⟩ : ∃ W, W = (((((w.alloc (.cells #[.slice none 0 0] 22)).alloc (.cells #[.int .i64 0] 28)).alloc (.cells #[.slice none 0 0] 22)).alloc (.cells #[.slice p l.length cap] 33)).alloc (.cells #[.slice pw u.length cw] 22)) := ⟨_, rfl⟩
  have hsz : W0.heap.size = w.heap.size + 1 + 1 + 1 + 1 + 1 := by rw [hW0]; simp
  have HB0 : Hid (Below w.heap.size w W0) := Lib.hid (by rw [hW0]; exact (((((Below.refl _ _).alloc (Nat.le_refl _) _).alloc (by simp) _).alloc (by simp; omega) _).alloc (by simp; omega) _).alloc (by simp; omega) _)
  have HR1 : Hid (Boxed W0 w.heap.size 22 (.slice none 0 0)) := Lib.hid (by rw [hW0]; exact ((((Boxed.new w 22 (.slice none 0 0)).alloc _).alloc _).alloc _).alloc _)
  have HR2 : Hid (Boxed W0 (w.heap.size + 1) 28 (.int .i64 0)) := Lib.hid (by
    rw [hW0]
    have := Boxed.new (w.alloc (.cells #[.slice none 0 0] 22)) 28 (.int .i64 0)
    rw [World.size_alloc] at this
    exact ((this.alloc _).alloc _).alloc _)
  have HNx : Hid (Boxed W0 (w.heap.size + 1 + 1) 22 (.slice none 0 0)) := Lib.hid (by
    rw [hW0]
    have := Boxed.new ((w.alloc (.cells #[.slice none 0 0] 22)).alloc (.cells #[.int .i64 0] 28)) 22 (.slice none 0 0)
    rw [World.size_alloc, World.size_alloc] at this
    exact (this.alloc _).alloc _)
  have HBR : Hid (Boxed W0 (w.heap.size + 1 + 1 + 1) 33 (.slice p l.length cap)) := Lib.hid (by
    rw [hW0]
    have := Boxed.new (((w.alloc (.cells #[.slice none 0 0] 22)).alloc (.cells #[.int .i64 0] 28)).alloc (.cells #[.slice none 0 0] 22)) 33 (.slice p l.length cap)
    rw [World.size_alloc, World.size_alloc, World.size_alloc] at this
    exact this.alloc _)
  have HBW : Hid (Boxed W0 (w.heap.size + 1 + 1 + 1 + 1) 22 (.slice pw u.length cw)) := Lib.hid (by
    rw [hW0]
    have := Boxed.new ((((w.alloc (.cells #[.slice none 0 0] 22)).alloc (.cells #[.int .i64 0] 28)).alloc (.cells #[.slice none 0 0] 22)).alloc (.cells #[.slice p l.length cap] 33)) 22 (.slice pw u.length cw)
    rw [World.size_alloc, World.size_alloc, World.size_alloc, World.size_alloc] at this
    exact this)
  have HT : Hid (Tells Fence.wide (8 - 1) Tryz.prog 128 #[.pointer (some ⟨w.heap.size + 1 + 1 + 1 + 1, 0, none⟩), .pointer (some ⟨w.heap.size + 1 + 1 + 1, 0, none⟩)] yV w.heap.size (w.heap.size + 1 + 1) (fun x W => x.at b0 W) (fun xs => xs.map Yx.o = seqO l u) (fun pre => pre.map Yx.o <+: seqO l u) (seqO l u).length W0) :=
    Lib.hid (fun lp J Jx W hW hJ hJx hJr hY h0 => HIt.out 7 lp (w.heap.size + 1 + 1 + 1) (w.heap.size + 1 + 1 + 1 + 1) (w.heap.size + 1 + 1) J Jx _ hJ hJr hY W (HB0.out.trans (hW.mono HB0.out.size)) ((hW.block _ HBR.out.lt).trans HBR.out) ((hW.cell (p := ⟨w.heap.size + 1 + 1 + 1 + 1, 0, none⟩) HBW.out.lt).trans HBW.out.cell) (by omega) (Nat.lt_of_lt_of_le HNx.out.lt hW.size) h0)
  rw [← hW0]
  clear hW0
  obtain ⟨j0, hj, hy0, hy1, hy2⟩ := info_parts info_mod
  have HM : Hid (maxLen = 9223372036854775807) := Lib.hid rfl
  have HJ := Lib.hid hj
  have HY0 := Lib.hid hy0
  have HY1 := Lib.hid hy1
  have HY2 := Lib.hid hy2
  clear hj hy0 hy1 hy2
  have hwz := HB0.out.size
  refine range_tells rfl (by omega) (gf := 128) (lb := #[.pointer (some ⟨w.heap.size + 1 + 1 + 1 + 1, 0, none⟩), .pointer (some ⟨w.heap.size + 1 + 1 + 1, 0, none⟩)]) rfl trivial (enters_of Tryz.func128 (by kernel_rfl) rfl) HT.out hwz (Below.refl _ _) (fun _ => rfl)
    (StI w b0) (StX w) (fun r pre W1 h => stI_row h) (stI_own w b0 _ hwz) (stX_own w _ hwz) (at_own b0 _)
    ⟨⟨.slice none 0 0, [], [], HNx.out, rfl, rfl, modFr_nil _ _, fun g e => by cases e⟩, HR1.out, HR2.out, HB0.out⟩
    (fun x => .cells #[.int .u8 x.cn, x.v] 27 (0, 0))
    (fun x mb => { tmps := #[.slice p l.length cap, .slice pw u.length cw, undef, undef, .pointer (some ⟨w.heap.size, 0, none⟩), .pointer (some ⟨w.heap.size + 1, 0, none⟩), .pointer (some ⟨w.heap.size + 1 + 1, 0, none⟩), .pointer (some ⟨mb, 0, none⟩), .int .i64 x.er, .slice p l.length cap, .slice pw u.length cw,
      .func (.func 128) #[] #[.pointer (some ⟨w.heap.size + 1 + 1 + 1 + 1, 0, none⟩), .pointer (some ⟨w.heap.size + 1 + 1 + 1, 0, none⟩)], .agg #[.int .u8 x.cn, x.v], .int .i64 x.er, undef, undef, undef, undef, undef, undef, undef, undef, undef, undef, undef], defers := [] }) ?assign ?body ?done ?stop
  case assign =>
    rintro lp ⟨o, px, nx, cx⟩ W K hK
    dsimp only [yV]
    gi_wp2
    exact hK
  case body =>
    rintro lp r pre ⟨o, px, nx, cx⟩ mb W hI hQ hm hmr hml hlen
    have HI := Lib.hid hI
    have HQ := Lib.hid hQ
    have HMb := Lib.hid hm
    have hge := hI.below.size
    cases o with
    | none =>
      have c1 := hI.r1.cell
      have f1 := hI.r1.frozen
      have l1 := hI.r1.lt
      have c2 := hI.r2.cell
      have f2 := hI.r2.frozen
      have l2 := hI.r2.lt
      clear hI hQ hm
      dsimp only [Yx.er, Yx.cn]
      gi_wp2_with fail
      have h := HI.out
      refine ⟨((KeepsOthers.setCell _ _ _).trans (KeepsOthers.setCell _ _ _)).from _, ⟨by simp, ?_, ?_, ?_⟩⟩
      · exact (h.r1.set _).kept (grownBy_setCell' _ _ _) (by simp <;> omega)
      · exact (h.r2.kept (grownBy_setCell' _ _ _) (by simp)).set _
      · exact (h.below.setCell (p := ⟨w.heap.size, 0, none⟩) (Nat.le_refl _) _).setCell (p := ⟨w.heap.size + 1, 0, none⟩) (Nat.le_succ _) _
    | some m =>
      obtain ⟨vv, d, vs, hbx, hvr, hpre, hmf, hrg⟩ := hI.own
      have hqo : W.ownsRow b0 3 1 (.slice px nx cx) m.a.length (valsL m.a) := hQ
      have HQo := Lib.hid hqo
      have HMF := Lib.hid hmf
      have HBx := Lib.hid hbx
      have HVr := Lib.hid hvr
      have HPre := Lib.hid hpre
      have hrow : W.ownsRow w.heap.size 27 2 vv d.length (modC d vs) := own_raise hmf.row (by rw [hvr]; exact hrg)
      have HRow := Lib.hid hrow
      have hdl : d.length < 40000 := by
        have h1 := congrArg List.length hpre
        rw [List.length_map, List.length_map] at h1
        have := HN.out
        omega
      have hc := hbx.cell
      have hf := hbx.frozen
      have hlx := hbx.lt
      have m0 : W.cell? ⟨mb, 0, none⟩ = some (.int .u8 m.c.toNat) := cell_two0 hm
      have m1 : W.cell? ⟨mb, 1, none⟩ = some (.slice px nx cx) := cell_two1 hm
      have lm := lt_of_block hm
      obtain ⟨pvv, cvv, hvv⟩ := fr_slice hmf.row
      subst hvv
      clear hI hQ hm hqo hmf hbx hvr hpre hrg hrow
      dsimp only [Yx.er, Yx.cn]
      gi_wp2_with (gi_at_builtin; go_loud (refine wpListIn_append_own_at _ rfl _ _ 22 rfl w.heap.size 27 j0 (.agg #[.int .u8 0, .slice none 0 0]) 2 32 Tryz.underlying22 HJ.out HY0.out HY1.out HY2.out rfl (by decide) (.slice pvv d.length cvv) d.length (modC d vs) rfl (HRow.out.alloc _) ⟨W.heap.size, 0, none⟩ 1 1 [.int .u8 m.c.toNat, .slice px nx cx] rfl rfl (two_new _ _ _ _) (by simp [Value.oneCell']) (by rw [HM.out]; omega) (by omega) (by simp; omega) ?_; intro v' w1 hown' hgrow hnil hat; obtain ⟨g', cap', rfl⟩ := ownsRow_succ hown'; obtain ⟨hv1, hv2, hr2, hk2, hb2⟩ := HBx.out.appended mods_ne_mod HRow.out hge (by omega) hown' hgrow; have hc2 := hv1.cell; have hf2 := hv1.frozen; have hl2 := hv1.lt; have HV1 := Lib.hid hv1; have HV2 := Lib.hid hv2; have HO2 := Lib.hid hown'; have HG2 := Lib.hid hgrow; have HK2 := Lib.hid hk2; have HB2 := Lib.hid hb2; have HAt := Lib.hid hat; clear hv1 hv2 hr2 hk2 hb2 hown' hgrow hnil hat))
      have h := HI.out
      have hg' := owns_lt HO2.out g' rfl
      refine ⟨HK2.out.from _, some g', ⟨HB2.out, ?_, ?_⟩, ⟨⟨_, d ++ [m], vs ++ [.slice px nx cx], HV2.out, rfl, ?_, ?_, ?_⟩, ?_, ?_, h.below.trans HB2.out⟩⟩
      · intro k o hk ho hkb hkr
        exact (Below.heap_setCell _ _ _ k hkb).trans ((HG2.out.block k (by have := lt_of_block hk; simp; omega) (by rw [HVr.out]; exact hkr)).trans (heap_alloc_old hk _))
      · rcases HAt.out with e | e
        · left; rw [← HVr.out]; exact e
        · right; intro g eg
          have e2 : some g' = some (W.heap.size + 1) := by simpa [Value.ownBlock] using e
          have := Option.some.inj (eg.symm.trans e2)
          omega
      · rw [List.map_append, List.map_append, HPre.out]; rfl
      · exact mod_box (mod_push (mod_turn HMF.out (World.grownBy_alloc W _ none) (fun j e => by cases e)) (HQo.out.alloc _) (owns_mono HO2.out hb0) HG2.out) HV1.out _
      · intro g eg
        cases eg; exact hg'.1
      · exact ((h.r1.alloc (.cells #[.int .u8 m.c.toNat, .slice px nx cx] 27)).kept HG2.out ((h.r1.alloc (.cells #[.int .u8 m.c.toNat, .slice px nx cx] 27)).not_row mods_ne_mod (HRow.out.alloc (.cells #[.int .u8 m.c.toNat, .slice px nx cx] 27)))).kept (grownBy_setCell' _ _ _) (by simp; omega)
      · exact ((h.r2.alloc (.cells #[.int .u8 m.c.toNat, .slice px nx cx] 27)).kept HG2.out ((h.r2.alloc (.cells #[.int .u8 m.c.toNat, .slice px nx cx] 27)).not_row err_ne_mod (HRow.out.alloc (.cells #[.int .u8 m.c.toNat, .slice px nx cx] 27)))).kept (grownBy_setCell' _ _ _) (by simp)
  case done =>
    rintro D r xs W hD hS hI hK
    obtain ⟨vv, d, vs, hbx, hvr, hpre, hmf, hrg⟩ := hI.own
    have hst : stepL l u = some d := by rw [← HSeq.out, ← hS, hpre, allO_some]
    obtain ⟨pvv, cvv, hvv⟩ := fr_slice hmf.row
    subst hvv
    have HI := Lib.hid hI
    have HMF := Lib.hid hmf
    have HK := Lib.hid hK
    have hD2 : w.heap.size ≤ D := Nat.le_trans hwz hD
    have hc := hbx.cell
    have c1 := hI.r1.cell
    have f1 := hI.r1.frozen
    have l1 := hI.r1.lt
    have c2 := hI.r2.cell
    have f2 := hI.r2.frozen
    have l2 := hI.r2.lt
    have HFin : Hid (∀ (x1 x2 : Value) (e : Ending), (∀ w', Below w.heap.size w w' → ModFr w' b0 (.slice pvv d.length cvv) d vs → SpEnd l u b0 w e w') → SpEnd l u b0 w e (((W.setCell ⟨w.heap.size, 0, none⟩ x1).setCell ⟨w.heap.size + 1, 0, none⟩ x2).putObj D (.deferred none))) := Lib.hid (fun x1 x2 e h => by
      have hb : Below w.heap.size w ((W.setCell ⟨w.heap.size, 0, none⟩ x1).setCell ⟨w.heap.size + 1, 0, none⟩ x2) := (hI.below.setCell (p := ⟨w.heap.size, 0, none⟩) (Nat.le_refl _) _).setCell (p := ⟨w.heap.size + 1, 0, none⟩) (Nat.le_succ _) _
      have hK' := ((KeepsOthers.setCell W ⟨w.heap.size, 0, none⟩ x1).trans (KeepsOthers.setCell _ ⟨w.heap.size + 1, 0, none⟩ x2)).same D _ hK rfl
      have hm1 := mod_box hmf hI.r1 x1
      have hr2 : Boxed (W.setCell ⟨w.heap.size, 0, none⟩ x1) (w.heap.size + 1) 28 (.int .i64 0) := hI.r2.kept (grownBy_setCell' _ _ _) (by simp)
      have hm2 : ModFr ((W.setCell ⟨w.heap.size, 0, none⟩ x1).setCell ⟨w.heap.size + 1, 0, none⟩ x2) b0 (.slice pvv d.length cvv) d vs :=
        ⟨hm1.len, own_box hm1.row hr2 err_ne_mod x2, fun k hk hk2 => ⟨own_box (hm1.args k hk hk2).own hr2 err_ne_int x2, (hm1.args k hk hk2).apart⟩⟩
      refine h _ (hb.trans (belowK_b (w := w) (Nat.le_refl _) _ D _ _ hD2 hK' rfl rfl)) (mod_turn hm2 (grownBy_putObj' _ D _) (fun j e => by cases e; exact ⟨_, hK', rfl⟩)))
    have HC1 : Hid (∀ x1 x2 : Value, (((W.setCell ⟨w.heap.size, 0, none⟩ x1).setCell ⟨w.heap.size + 1, 0, none⟩ x2).putObj D (.deferred none)).cell? ⟨w.heap.size, 0, none⟩ = some x1 ∧ (((W.setCell ⟨w.heap.size, 0, none⟩ x1).setCell ⟨w.heap.size + 1, 0, none⟩ x2).putObj D (.deferred none)).cell? ⟨w.heap.size + 1, 0, none⟩ = some x2 ∧ ((W.setCell ⟨w.heap.size, 0, none⟩ x1).setCell ⟨w.heap.size + 1, 0, none⟩ x2).heap[D]? = some (.deferred (some []))) := Lib.hid (fun x1 x2 => by
      have hK' := ((KeepsOthers.setCell W ⟨w.heap.size, 0, none⟩ x1).trans (KeepsOthers.setCell _ ⟨w.heap.size + 1, 0, none⟩ x2)).same D _ hK rfl
      have b1 : Boxed ((W.setCell ⟨w.heap.size, 0, none⟩ x1).setCell ⟨w.heap.size + 1, 0, none⟩ x2) w.heap.size 22 x1 := (hI.r1.set x1).kept (grownBy_setCell' _ _ _) (by simp)
      have b2 : Boxed ((W.setCell ⟨w.heap.size, 0, none⟩ x1).setCell ⟨w.heap.size + 1, 0, none⟩ x2) (w.heap.size + 1) 28 x2 := (hI.r2.kept (grownBy_setCell' _ _ _) (by simp)).set x2
      exact ⟨cell_kept b1.cell (grownBy_putObj' _ D (.deferred none)) (fun r e => by cases e; exact ⟨_, hK', rfl⟩), cell_kept b2.cell (grownBy_putObj' _ D (.deferred none)) (fun r e => by cases e; exact ⟨_, hK', rfl⟩), hK'⟩)
    have HD := Lib.hid hD
    clear hI hmf hbx hvr hpre hrg hS hD hK
    by_cases h2k : 2000 < d.length
    · have t1 : (2000 : Int) < (d.length : Int) := by omega
      have HE : Hid (spC l u = 4 ∧ spL l u = []) := Lib.hid (by unfold spC spL; rw [hst]; simp [h2k])
      clear hst
      gi_wp2_with fail
      obtain ⟨e1, e2, e3⟩ := HC1.out (.slice none 0 0) (.int .i64 4)
      refine ⟨by simp, .inl ⟨_, _, rfl, run_takeDeferred e3, ?_⟩⟩
      refine ⟨.tuple #[.slice none 0 0, .int .i64 4], by simp [results, Tryz.f103, go_sem, e1, e2], HFin.out _ _ _ (fun w' hb hm => ⟨_, [], by rw [HE.out.1], hb, by rw [HE.out.2]; exact modFr_nil _ _⟩)⟩
    · have t1 : ¬ (2000 : Int) < (d.length : Int) := by omega
      have HE : Hid (spC l u = 0 ∧ spL l u = d) := Lib.hid (by unfold spC spL; rw [hst]; simp; omega)
      clear hst
      gi_wp2_with fail
      obtain ⟨e1, e2, e3⟩ := HC1.out (.slice pvv d.length cvv) (.int .i64 0)
      refine ⟨by simp, .inl ⟨_, _, rfl, run_takeDeferred e3, ?_⟩⟩
      refine ⟨.tuple #[.slice pvv d.length cvv, .int .i64 0], by simp [results, Tryz.f103, go_sem, e1, e2], HFin.out _ _ _ (fun w' hb hm => ⟨_, vs, by rw [HE.out.1], hb, by rw [HE.out.2]; exact hm⟩)⟩
  case stop =>
    rintro D pre W hD hSp hI hK
    have hst : stepL l u = none := by rw [← HSeq.out]; exact allO_none (hSp.subset hI.bad)
    have HE : Hid (spC l u = 16 ∧ spL l u = []) := Lib.hid (by unfold spC spL; rw [hst]; simp)
    have HI := Lib.hid hI
    have HK := Lib.hid hK
    have hD2 : w.heap.size ≤ D := Nat.le_trans hwz hD
    have HD2 := Lib.hid hD2
    clear hI hK hSp hst hD hD2
    gi_wp2_with fail
    refine ⟨by simp, .inl ⟨_, _, rfl, run_takeDeferred HK.out, ?_⟩⟩
    have e1 := cell_kept HI.out.r1.cell (grownBy_putObj' _ D (.deferred none)) (fun r e => by cases e; exact ⟨_, HK.out, rfl⟩)
    have e2 := cell_kept HI.out.r2.cell (grownBy_putObj' _ D (.deferred none)) (fun r e => by cases e; exact ⟨_, HK.out, rfl⟩)
    exact ⟨.tuple #[.slice none 0 0, .int .i64 16], by simp [results, Tryz.f103, go_sem, e1, e2], _, [], by rw [HE.out.1], HI.out.below.trans (belowK_b (w := w) (Nat.le_refl _) _ D _ _ HD2.out HK.out rfl rfl), by rw [HE.out.2]; exact modFr_nil _ _⟩
end Go.Proofs.YtlmofdmbcddddaaGreatDoor
