/-
  What the reference's Written and Text hand back.
-/
import Derived.Test.YtakjgjhjndiggaaGreatDoorValTextB
import Derived.Test.YtakjgjhjndiggaaGreatDoorValRefCheck
import Derived.Test.YtakjgjhjndiggaaGreatDoorZRatRefText
namespace Go.Proofs.YtakjgjhjndiggaaGreatDoor
open Go.RowKit Go.Shelf
open VM
set_option linter.unusedVariables false
set_option linter.unusedSimpArgs false

theorem b34 : (⟨#[34]⟩ : ByteArray) = bA [34] := rfl
theorem b92 : (⟨#[92]⟩ : ByteArray) = bA [92] := rfl
theorem b91 : (⟨#[91]⟩ : ByteArray) = bA [91] := rfl
theorem b93 : (⟨#[93]⟩ : ByteArray) = bA [93] := rfl
theorem b4432 : (⟨#[44, 32]⟩ : ByteArray) = bA [44, 32] := rfl
theorem extract_one {s : ByteArray} {k : Nat} (h : k < s.size) : s.extract k (k + 1) = bA [s[k]] := by
  apply ByteArray.ext
  rw [ByteArray.data_extract]
  show s.data.extract k (k + 1) = #[s[k]]
  apply Array.ext
  · simp; omega
  · intro i h1 h2
    simp at h1 h2
    obtain rfl : i = 0 := by omega
    simp; rfl
/-- The text of a string so far. -/
def qT (s : ByteArray) (j : Nat) : ByteArray := bA (34 :: escL ((lA s).take j))
theorem qT_zero (s : ByteArray) : qT s 0 = ⟨#[34]⟩ := by unfold qT; simp [escL]; rfl
theorem qT_spec {s : ByteArray} {j : Nat} (h : j < s.size) (hc : s[j] = 34 ∨ s[j] = 92) : qT s (j + 1) = qT s j ++ ⟨#[92]⟩ ++ s.extract j (j + 1) := by
  unfold qT
  rw [b92, extract_one h, bA_app, bA_app, take_at h, escL_snoc, if_pos hc]; simp
theorem qT_plain {s : ByteArray} {j : Nat} (h : j < s.size) (hc : ¬ (s[j] = 34 ∨ s[j] = 92)) : qT s (j + 1) = qT s j ++ s.extract j (j + 1) := by
  unfold qT
  rw [extract_one h, bA_app, take_at h, escL_snoc, if_neg hc]; simp
theorem qT_end (s : ByteArray) : bA (quoL (lA s)) = qT s s.size ++ ⟨#[34]⟩ := by
  unfold qT quoL
  rw [b34, bA_app, List.take_of_length_le (by rw [lA_len]; exact Nat.le_refl _)]; rfl
theorem qT_size (s : ByteArray) (hs : s.size ≤ 10000) (j : Nat) : (qT s j).size ≤ 100000 := by
  unfold qT; rw [bA_size]; exact quo_len s hs j
/-- The text of a list so far. -/
def lT (l : List V) (j : Nat) : ByteArray := bA (91 :: jnL (l.take j))
theorem lT_zero (l : List V) : lT l 0 = ⟨#[91]⟩ := by unfold lT; simp [jnL_nil]; rfl
theorem lT_one {l : List V} (h : 0 < l.length) : lT l 1 = lT l 0 ++ bA (txt l[0]) := by
  unfold lT
  rw [bA_app, List.take_succ_eq_append_getElem h, jnL_snoc]; simp [jnL_nil]
theorem lT_more {l : List V} {j : Nat} (h : j < l.length) (hj : 0 < j) : lT l (j + 1) = lT l j ++ ⟨#[44, 32]⟩ ++ bA (txt l[j]) := by
  unfold lT
  have : l.take j ≠ [] := by
    intro e; have := congrArg List.length e; rw [List.length_take, List.length_nil] at this; omega
  rw [b4432, bA_app, bA_app, List.take_succ_eq_append_getElem h, jnL_snoc, if_neg this]; simp
theorem lT_end (l : List V) : bA (91 :: bod l) = lT l l.length ++ ⟨#[93]⟩ := by
  unfold lT
  rw [b93, bA_app, bod_join, List.take_length]; rfl
theorem jnL_app_len (l m : List V) : (jnL l).length ≤ (jnL (l ++ m)).length := by
  induction m generalizing l with
  | nil => simp
  | cons x m ih =>
    have h1 := ih (l ++ [x])
    rw [List.append_assoc] at h1
    refine Nat.le_trans ?_ h1
    rw [jnL_snoc]
    split
    · rename_i h; subst h; simp [jnL_nil]
    · rw [List.length_append]; omega
theorem lT_size {l : List V} (h : (jnL l).length ≤ 10000000) (j : Nat) : (lT l j).size ≤ 10000001 := by
  unfold lT; rw [bA_size, List.length_cons]
  have := jnL_app_len (l.take j) (l.drop j)
  rw [List.take_append_drop] at this; omega

set_option maxHeartbeats 2000000 in
theorem written_str (a : Nd) (p : Option Addr) (cap n : Nat) (w : World) (hk : a.k = 3) (hs : a.s.size ≤ 10000) :
    Calls Tryz.prog 47 #[.agg #[.int .u8 a.k, .int .i64 a.n, .int .i64 a.d, .bool a.t, .string a.s, .slice p n cap]] w fun e w' => e = .returned (.string (bA (quoL (lA a.s)))) ∧ Below w.heap.size w w' := by
  have S0 : Hid (Six (w.alloc (.cells #[.int .u8 a.k, .int .i64 a.n, .int .i64 a.d, .bool a.t, .string a.s, .slice p n cap] 28)) w.heap.size a (.slice p n cap)) := Lib.hid (Six.new _ _ _)
  have HB0 : Hid (Below w.heap.size w (w.alloc (.cells #[.int .u8 a.k, .int .i64 a.n, .int .i64 a.d, .bool a.t, .string a.s, .slice p n cap] 28))) := Lib.hid ((Below.refl _ _).alloc (Nat.le_refl _) _)
  have HZ := Lib.hid (qT_zero a.s)
  have HSp := Lib.hid (fun j (h : j < a.s.size) hc => qT_spec h hc)
  have HPl := Lib.hid (fun j (h : j < a.s.size) hc => qT_plain h hc)
  have HEn := Lib.hid (qT_end a.s)
  have HSz := Lib.hid (qT_size a.s hs)
  have k1 : (a.k == 1) = false := by simp [hk]
  have k2 : (a.k == 2) = false := by simp [hk]
  have k3 : (a.k == 3) = true := by simp [hk]
  clear hk
  go_enter Tryz.func47, Tryz.ntmps47
  go_wp2_with fail
  go_loopw [5, 6] (fun s i wr => ∃ j : Nat, j ≤ a.s.size ∧ i = .int .i64 j ∧ s = .string (qT a.s j) ∧ Six wr w.heap.size a (.slice p n cap) ∧ Below w.heap.size w wr) (fun _ i _ => a.s.size - (intOf i).toNat)
  case atStart => exact ⟨0, Nat.zero_le _, rfl, by rw [HZ.out], S0.out, HB0.out⟩
  case round =>
    obtain ⟨j, hj, rfl, rfl, hS, hB⟩ := hrel
    have HS := Lib.hid hS
    have HB := Lib.hid hB
    have l1 := hS.lt
    have q4 := hS.row.c4
    simp only [Nat.zero_add] at q4
    clear hS hB
    by_cases hlt : j < a.s.size
    · have h1 := HSz.out j
      have HS1 := Lib.hid (HSp.out j hlt)
      have HP1 := Lib.hid (HPl.out j hlt)
      obtain ⟨x, hx⟩ : ∃ x, qT a.s j = x := ⟨_, rfl⟩
      have hxs : (a.s.extract j (j + 1)).size = 1 := by rw [extract_one hlt, bA_size]; rfl
      rw [hx] at HS1 HP1 h1
      rw [hx]
      clear hx
      obtain ⟨c, hc⟩ : ∃ c, c = a.s[j] := ⟨_, rfl⟩
      rw [← hc] at HS1 HP1
      have hu1 : c = 34 ↔ ((c.toNat : Nat) : Int) = 34 := ⟨fun h => by subst h; rfl, fun h => UInt8.toNat_inj.1 (by show c.toNat = 34; omega)⟩
      have hu2 : c = 92 ↔ ((c.toNat : Nat) : Int) = 92 := ⟨fun h => by subst h; rfl, fun h => UInt8.toNat_inj.1 (by show c.toNat = 92; omega)⟩
      have y1 : ¬ (9223372036854775807 : Int) < (x.size : Int) + 1 := by omega
      have y2 : ¬ (9223372036854775807 : Int) < (x.size : Int) + 1 + 1 := by omega
      have y3 : ¬ 9223372036854775807 < x.size + 1 := by omega
      have y4 : ¬ 9223372036854775807 < x.size + 1 + 1 := by omega
      have HU1 := Lib.hid hu1
      have HU2 := Lib.hid hu2
      clear hu1 hu2
      by_cases z1 : ((c.toNat : Nat) : Int) = 34
      · have HX := Lib.hid (HS1.out (.inl (HU1.out.2 z1)))
        rw [hc] at z1
        clear hc
        go_wp2_with fail
        go_roundw
        case rel => exact ⟨j + 1, by omega, by go_num, by rw [HX.out], HS.out, HB.out⟩
        case measure => simp [intOf]; omega
      · by_cases z2 : ((c.toNat : Nat) : Int) = 92
        · have HX := Lib.hid (HS1.out (.inr (HU2.out.2 z2)))
          rw [hc] at z1 z2
          clear hc
          go_wp2_with fail
          go_roundw
          case rel => exact ⟨j + 1, by omega, by go_num, by rw [HX.out], HS.out, HB.out⟩
          case measure => simp [intOf]; omega
        · have HX := Lib.hid (HP1.out (fun h => h.elim (fun h => z1 (HU1.out.1 h)) fun h => z2 (HU2.out.1 h)))
          rw [hc] at z1 z2
          have z3 := beq_eq_false_iff_ne.2 z1
          have z4 := beq_eq_false_iff_ne.2 z2
          clear hc
          go_wp2_with fail
          go_roundw
          case rel => exact ⟨j + 1, by omega, by go_num, by rw [HX.out], HS.out, HB.out⟩
          case measure => simp [intOf]; omega
    · obtain rfl : j = a.s.size := by omega
      have h1 := HSz.out a.s.size
      obtain ⟨x, hx⟩ : ∃ x, qT a.s a.s.size = x := ⟨_, rfl⟩
      rw [hx] at HEn h1
      rw [hx]
      have y3 : ¬ 9223372036854775807 < x.size + 1 := by omega
      have y1 : ¬ (9223372036854775807 : Int) < (x.size : Int) + 1 := by omega
      clear hx
      go_wp2_with fail
      go_ret
      exact ⟨by rw [HEn.out]; rfl, HB.out⟩

set_option maxHeartbeats 2000000 in
theorem written_v (v : V) : ∀ (sl : Value) (w : World), Small v → parts v ≤ 50000 → fineB v = true → RepL (· < w.heap.size) w v.list sl →
    Calls Tryz.prog 47 #[.agg #[.int .u8 v.nd.k, .int .i64 v.nd.n, .int .i64 v.nd.d, .bool v.nd.t, .string v.nd.s, sl]] w fun e w' => e = .returned (.string (bA (txt v))) ∧ Below w.heap.size w w' := by
  induction v using V.ind with
  | h a l ih =>
    intro sl w hs hpt hf hr
    obtain ⟨p, cap, rfl⟩ := hr.slice
    dsimp only [V.nd_mk, V.list_mk] at hr ⊢
    have HPt := Lib.hid hpt
    have S0 := Lib.hid (ArgAt.start (a := a) hr)
    clear hpt
    rcases fine_kind hf with hk | hk | hk | hk
    · have HV := Lib.hid (fine_num hf hk)
      have HE := Lib.hid (txt_1 (l := l) hk)
      have HF := Lib.hid (text_fine HV.out)
      have k1 : (a.k == 1) = true := by simp [hk]
      clear hk hf hr ih hs
      go_enter Tryz.func47, Tryz.ntmps47
      go_wp2_with fail
      refine (reftext_any _ _ _).mono ?_
      rintro e w1 ⟨rfl, hb⟩
      have HB1 := Lib.hid (S0.out.below.trans (hb.mono S0.out.below.size))
      rw [HF.out.1]
      clear hb
      go_wp2_with fail
      go_ret
      exact ⟨by rw [HE.out]; rfl, HB1.out⟩
    · have HE := Lib.hid (txt_2 (l := l) hk)
      have k1 : (a.k == 1) = false := by simp [hk]
      have k2 : (a.k == 2) = true := by simp [hk]
      clear hk hf hr ih hs
      cases hb : a.t
      · rw [hb] at HE S0
        go_enter Tryz.func47, Tryz.ntmps47
        go_wp2_with fail
        go_ret
        exact ⟨by rw [HE.out]; rfl, S0.out.below⟩
      · rw [hb] at HE S0
        go_enter Tryz.func47, Tryz.ntmps47
        go_wp2_with fail
        go_ret
        exact ⟨by rw [HE.out]; rfl, S0.out.below⟩
    · have HV := Lib.hid (fine_pr hf hk)
      have HE := Lib.hid (txt_3 (l := l) hk)
      rw [HE.out]
      exact written_str a p cap l.length w hk (by have := prB_size HV.out; omega)
    · have HE := Lib.hid (txt_4 (l := l) hk)
      have HI := Lib.hid ih
      have HS := Lib.hid hs
      have HFm : Hid (∀ x ∈ l, fineB x = true) := Lib.hid fun x hx => fine_mem hf hk hx
      have hll : l.length ≤ 20000 := hs.wf.len
      have k1 : (a.k == 1) = false := by simp [hk]
      have k2 : (a.k == 2) = false := by simp [hk]
      have k3 : (a.k == 3) = false := by simp [hk]
      have HPl : Hid (partsL l ≤ 50000) := Lib.hid (by have := HPt.out; rw [parts_eq] at this; simp only [V.nd_mk, hk, if_true, V.list_mk] at this; omega)
      have HSz : Hid (∀ j, (lT l j).size ≤ 10000001) := Lib.hid (lT_size (by
        have := bod_len (l := l) fun x hx => txt_len x (fine_mem hf hk hx)
        rw [bod_join, List.length_append] at this
        have := HPl.out; omega))
      have HTx : Hid (∀ x ∈ l, (txt x).length ≤ 10000000) := Lib.hid fun x hx => by
        have h1 := txt_len x (fine_mem hf hk hx)
        obtain ⟨k, hk, rfl⟩ := List.getElem_of_mem hx
        have := parts_step hk; have := HPl.out; omega
      have HZ := Lib.hid (lT_zero l)
      have HEn := Lib.hid (lT_end l)
      have HO := Lib.hid (fun h => lT_one (l := l) h)
      have HM := Lib.hid (fun j (h : j < l.length) hj => lT_more h hj)
      clear hk hf hr ih hs
      go_enter Tryz.func47, Tryz.ntmps47
      go_wp2_with fail
      go_loopw [7, 8] (fun s i wr => ∃ j : Nat, j ≤ l.length ∧ i = .int .i64 j ∧ s = .string (lT l j) ∧ ArgAt w a p cap l wr) (fun _ i _ => l.length - (intOf i).toNat)
      case atStart => exact ⟨0, Nat.zero_le _, rfl, by rw [HZ.out], S0.out⟩
      case round =>
        obtain ⟨j, hj, rfl, rfl, hA⟩ := hrel
        have HA := Lib.hid hA
        have l1 := hA.six.lt
        have q5 := hA.six.row.c5
        simp only [Nat.zero_add] at q5
        clear hA
        by_cases hlt : j < l.length
        · obtain ⟨b, off, S, rfl, hq, hb, R, hR⟩ := HA.out.rep.at hlt
          obtain ⟨p', cap', rfl⟩ := hR.slice
          have r0 := R.c0
          have r1 := R.c1
          have r2 := R.c2
          have r3 := R.c3
          have r4 := R.c4
          have r5 := R.c5
          have HC := Lib.hid (HI.out l[j] (List.getElem_mem hlt) _ wr (HS.out.get hlt) (by have := parts_step hlt; have := HPl.out; omega) (HFm.out _ (List.getElem_mem hlt)) hR.bound)
          have htx : (bA (txt l[j])).size ≤ 10000000 := by rw [bA_size]; exact HTx.out _ (List.getElem_mem hlt)
          have HO1 : Hid (j = 0 → lT l (j + 1) = lT l j ++ bA (txt l[j])) := Lib.hid fun e => by subst e; exact HO.out hlt
          have HM1 := Lib.hid (HM.out j hlt)
          have h1 := HSz.out j
          obtain ⟨x, hx⟩ : ∃ x, lT l j = x := ⟨_, rfl⟩
          obtain ⟨t, ht⟩ : ∃ t, bA (txt l[j]) = t := ⟨_, rfl⟩
          rw [hx, ht] at HO1 HM1
          rw [ht] at HC htx
          rw [hx] at h1 ⊢
          have y1 : ¬ (9223372036854775807 : Int) < (x.size : Int) + (t.size : Int) := by omega
          have y2 : ¬ (9223372036854775807 : Int) < (x.size : Int) + 2 := by omega
          have y3 : ¬ (9223372036854775807 : Int) < (x.size : Int) + 2 + (t.size : Int) := by omega
          have y4 : ¬ 9223372036854775807 < x.size + t.size := by omega
          have y5 : ¬ 9223372036854775807 < x.size + 2 := by omega
          have y6 : ¬ 9223372036854775807 < x.size + 2 + t.size := by omega
          clear R hR hq hx ht h1 htx
          by_cases hj0 : j = 0
          · have HX := Lib.hid (HO1.out hj0)
            have z0 : ¬ (0 : Int) < (j : Int) := by omega
            clear hj0
            go_wp2_with fail
            refine HC.out.mono ?_
            rintro e w1 ⟨rfl, hb1⟩
            have HA1 := Lib.hid (HA.out.later hb1)
            clear hb1
            go_wp2_with fail
            go_roundw
            case rel => exact ⟨j + 1, by omega, by go_num, by rw [HX.out], HA1.out⟩
            case measure => simp [intOf]; omega
          · have HX := Lib.hid (HM1.out (by omega))
            have z0 : (0 : Int) < (j : Int) := by omega
            clear hj0
            go_wp2_with fail
            refine HC.out.mono ?_
            rintro e w1 ⟨rfl, hb1⟩
            have HA1 := Lib.hid (HA.out.later hb1)
            clear hb1
            go_wp2_with fail
            go_roundw
            case rel => exact ⟨j + 1, by omega, by go_num, by rw [HX.out], HA1.out⟩
            case measure => simp [intOf]; omega
        · obtain rfl : j = l.length := by omega
          have h1 := HSz.out l.length
          obtain ⟨x, hx⟩ : ∃ x, lT l l.length = x := ⟨_, rfl⟩
          rw [hx] at HEn h1
          rw [hx]
          have y3 : ¬ 9223372036854775807 < x.size + 1 := by omega
          have y1 : ¬ (9223372036854775807 : Int) < (x.size : Int) + 1 := by omega
          clear hx
          go_wp2_with fail
          go_ret
          exact ⟨by rw [HE.out, HEn.out]; rfl, HA.out.below⟩

set_option maxHeartbeats 2000000 in
theorem reftextv_any (a : Nd) (l : List V) (p : Option Addr) (cap : Nat) (w : World) (hs : Small (.mk a l)) (hpb : deep (.mk a l) ≤ 6 → (parts (.mk a l) : Int) ≤ 9223372036854775807) (hr : RepL (· < w.heap.size) w l (.slice p l.length cap)) :
    Calls Tryz.prog 25 #[.agg #[.int .u8 a.k, .int .i64 a.n, .int .i64 a.d, .bool a.t, .string a.s, .slice p l.length cap]] w fun e w' => e = .returned (.tuple #[.string (tStr (.mk a l)), .int .i64 (tErr (.mk a l))]) ∧ Below w.heap.size w w' := by
  have HS := Lib.hid hs
  have S0 := Lib.hid (ArgAt.start (a := a) hr)
  have HC := Lib.hid (fun w1 (h : RepL (· < w1.heap.size) w1 l (.slice p l.length cap)) => refvcheck_any _ a l p cap w1 hs hpb h)
  clear hs hr hpb
  by_cases hz : vchk (.mk a l) = 0
  · have hz3 := vchk_zero.1 hz
    have HX := Lib.hid (fun w1 (h : RepL (· < w1.heap.size) w1 l (.slice p l.length cap)) => written_v (.mk a l) _ w1 HS.out (by have := hz3.1; omega) hz3.2.2 h)
    have HLn : (txt (.mk a l)).length ≤ 100000 := by have := txt_len _ hz3.2.2; have := hz3.1; omega
    have HL1 := Lib.hid (fun h => t_long hz h)
    have HL2 := Lib.hid (fun h => t_fine hz h)
    rw [hz] at HC
    clear hz hz3
    go_enter Tryz.func25, Tryz.ntmps25
    go_wp2_with fail
    refine (HC.out _ S0.out.rep.bound).mono ?_
    rintro e w1 ⟨rfl, hb⟩
    have S1 := Lib.hid (S0.out.later hb)
    have l1 := S1.out.six.lt
    have q0 := S1.out.six.row.c0
    have q1 := S1.out.six.row.c1
    have q2 := S1.out.six.row.c2
    have q3 := S1.out.six.row.c3
    have q4 := S1.out.six.row.c4
    have q5 := S1.out.six.row.c5
    simp only [Nat.zero_add] at q1 q2 q3 q4 q5
    clear hb S0
    go_wp2_with fail
    refine (HX.out w1 S1.out.rep.bound).mono ?_
    rintro e w2 ⟨rfl, hb⟩
    have S2 := Lib.hid (S1.out.later hb)
    have hsz := bA_size (txt (.mk a l))
    clear hb q0 q1 q2 q3 q4 q5 l1 HX
    obtain ⟨x, hx⟩ : ∃ x, bA (txt (.mk a l)) = x := ⟨_, rfl⟩
    rw [hx] at hsz HL2 ⊢
    by_cases hl : 4000 < (txt (.mk a l)).length
    · have hl2 : (4000 : Int) < x.size := by omega
      have HR := Lib.hid (HL1.out hl)
      clear hl hx hsz
      go_wp2_with fail
      go_ret2
      exact ⟨ret_se HR.out.2.symm HR.out.1.symm, S2.out.below⟩
    · have hl2 : ¬ (4000 : Int) < x.size := by omega
      have HR := Lib.hid (HL2.out hl)
      clear hl hx hsz
      go_wp2_with fail
      go_ret2
      exact ⟨ret_se HR.out.2.symm HR.out.1.symm, S2.out.below⟩
  · have HR := Lib.hid (t_bad hz)
    obtain ⟨c, hc⟩ : ∃ c, vchk (.mk a l) = c := ⟨_, rfl⟩
    rw [hc] at HR HC hz
    have z1 : (c == 0) = false := beq_eq_false_iff_ne.2 hz
    have z2 : (c != 0) = true := by simp [bne, z1]
    clear hz hc
    go_enter Tryz.func25, Tryz.ntmps25
    go_wp2_with fail
    refine (HC.out _ S0.out.rep.bound).mono ?_
    rintro e w1 ⟨rfl, hb⟩
    have S1 := Lib.hid (S0.out.later hb)
    have l1 := S1.out.six.lt
    have q0 := S1.out.six.row.c0
    have q1 := S1.out.six.row.c1
    have q2 := S1.out.six.row.c2
    have q3 := S1.out.six.row.c3
    have q4 := S1.out.six.row.c4
    have q5 := S1.out.six.row.c5
    simp only [Nat.zero_add] at q1 q2 q3 q4 q5
    clear hb S0
    go_wp2_with fail
    refine (HC.out _ S1.out.rep.bound).mono ?_
    rintro e w2 ⟨rfl, hb⟩
    have S2 := Lib.hid (S1.out.later hb)
    clear hb q0 q1 q2 q3 q4 q5 l1
    go_wp2_with fail
    go_ret2
    exact ⟨ret_se HR.out.2.symm HR.out.1.symm, S2.out.below⟩
end Go.Proofs.YtakjgjhjndiggaaGreatDoor
