/-
  What readString hands back.
-/
import Derived.Test.YtakjgjhjndiggaaGreatDoorValRead
import Derived.Deep.RegionLaw
namespace Go.Proofs.YtakjgjhjndiggaaGreatDoor
open Go.RowKit Go.Shelf
open VM
set_option linter.unusedVariables false
set_option linter.unusedSimpArgs false

def ascii (b : By) : Prop := ∀ c ∈ b, c.toNat < 128
theorem pr_ascii {b : By} (h : prB (bA b) = true) : ascii b := by
  intro c hc
  obtain ⟨k, hk, rfl⟩ := List.getElem_of_mem hc
  have h1 := prB_at h (k := k) (by rw [bA_size]; exact hk)
  have e : (bA b)[k]'(by rw [bA_size]; exact hk) = b[k] := by show b.toArray[k]'(by simpa using hk) = _; simp
  rw [e] at h1; omega
/-- What readString hands back, of the bytes behind the first quotation mark. -/
def PStr (s : By) (v : V) (rest : By) (ok : Bool) : Prop :=
  (ok = true → ∃ b, v = strV b ∧ (prB (bA b) = true → s = escL b ++ 34 :: rest) ∧ b.length ≤ 4 * s.length + 12 ∧ rest.length < s.length) ∧ (ok = false → v = zerV ∧ rest = []) ∧
  (∀ b r, ascii b → s = escL b ++ 34 :: r → ok = true ∧ v = strV b ∧ rest = r)
/-- Where it stands. -/
structure RsAt (s : By) (pos : Nat) (acc : By) (esc : Bool) : Prop where
  bnd : pos ≤ s.length + 3
  len : acc.length ≤ 4 * pos
  snd : ascii acc → s.take pos = escL acc ++ (if esc = true then [92] else [])
  cmp : ∀ b r, ascii b → s = escL b ++ 34 :: r → ∃ b2, b = acc ++ b2 ∧ QRest r esc b2 (s.drop pos)
theorem RsAt.start (s : By) : RsAt s 0 [] false :=
  ⟨by omega, by simp, fun _ => by simp [escL], fun b r _ h => ⟨b, rfl, by rw [List.drop_zero, h]; exact .plain b⟩⟩
theorem take_one {s : By} {pos : Nat} (h : pos < s.length) : s.take (pos + 1) = s.take pos ++ [s[pos]] := List.take_succ_eq_append_getElem h
theorem drop_one {s : By} {pos : Nat} (h : pos < s.length) : s.drop pos = s[pos] :: s.drop (pos + 1) := List.drop_eq_getElem_cons h
theorem ascii_app {a b : By} : ascii (a ++ b) ↔ ascii a ∧ ascii b := by
  unfold ascii; simp only [List.mem_append]
  exact ⟨fun h => ⟨fun c hc => h c (.inl hc), fun c hc => h c (.inr hc)⟩, fun h c hc => hc.elim (h.1 c) (h.2 c)⟩
theorem RsAt.take {s : By} {pos : Nat} {acc : By} {esc : Bool} (h : RsAt s pos acc esc) (hp : pos < s.length) (hs : esc = true ↔ (s[pos] = 34 ∨ s[pos] = 92)) : RsAt s (pos + 1) (acc ++ [s[pos]]) false := by
  refine ⟨by omega, by rw [List.length_append, List.length_singleton]; have := h.len; omega, fun ha => ?_, fun b r hb hr => ?_⟩
  · rw [take_one hp, h.snd (ascii_app.1 ha).1, escL_snoc]
    cases esc
    · have hn : ¬ (s[pos] = 34 ∨ s[pos] = 92) := fun e => by have := hs.2 e; simp at this
      rw [if_neg hn]; simp
    · rw [if_pos (hs.1 rfl)]; simp
  · obtain ⟨b2, e, q⟩ := h.cmp b r hb hr
    rw [drop_one hp] at q
    cases esc
    · rcases q.split with ⟨_, h2⟩ | ⟨c, b', _, _, s', h2, _⟩ | ⟨c, b', e2, hc, s', h2, q'⟩
      · injection h2 with h2 _; have := hs.2 (.inl h2); simp at this
      · injection h2 with h2 _; have := hs.2 (.inr h2); simp at this
      · injection h2 with h3 h4
        exact ⟨b', by rw [e, e2, h3]; simp, by rw [h4]; exact q'⟩
    · obtain ⟨c, b', e2, hc, s', h2, q'⟩ := q.opened
      injection h2 with h3 h4
      exact ⟨b', by rw [e, e2, h3]; simp, by rw [h4]; exact q'⟩
theorem RsAt.back {s : By} {pos : Nat} {acc : By} (h : RsAt s pos acc false) (hp : pos < s.length) (hs : s[pos] = 92) : RsAt s (pos + 1) acc true := by
  refine ⟨by omega, by have := h.len; omega, fun ha => ?_, fun b r hb hr => ?_⟩
  · rw [take_one hp, h.snd ha, hs]; simp
  · obtain ⟨b2, e, q⟩ := h.cmp b r hb hr
    rw [drop_one hp] at q
    rcases q.split with ⟨_, h2⟩ | ⟨c, b', e2, _, s', h2, q'⟩ | ⟨c, b', e2, hc, s', h2, q'⟩
    · injection h2 with h2 _; rw [hs] at h2; exact absurd h2 (by decide)
    · injection h2 with _ h4; exact ⟨b2, e, by rw [h4]; exact q'⟩
    · injection h2 with h3 _; exact absurd (.inr (h3 ▸ hs)) hc
theorem RsAt.quote {s : By} {pos : Nat} {acc : By} (h : RsAt s pos acc false) (hp : pos < s.length) (hs : s[pos] = 34) : PStr s (strV acc) (s.drop (pos + 1)) true := by
  refine ⟨fun _ => ⟨acc, rfl, fun hpr => ?_, by have := h.len; have := h.bnd; omega, by rw [List.length_drop]; omega⟩, fun e => by simp at e, fun b r hb hr => ?_⟩
  · have := h.snd (pr_ascii hpr)
    have e : s = s.take pos ++ s.drop pos := (List.take_append_drop pos s).symm
    rw [this, drop_one hp, hs] at e
    simpa using e
  · obtain ⟨b2, e, q⟩ := h.cmp b r hb hr
    rw [drop_one hp] at q
    rcases q.split with ⟨e2, h2⟩ | ⟨c, b', e2, _, s', h2, q'⟩ | ⟨c, b', e2, hc, s', h2, q'⟩
    · injection h2 with _ h4
      exact ⟨rfl, by rw [e, e2]; simp, h4⟩
    · injection h2 with h3 _; rw [hs] at h3; exact absurd h3 (by decide)
    · injection h2 with h3 _; exact absurd (.inl (h3 ▸ hs)) hc
theorem RsAt.bad {s : By} {pos : Nat} {acc : By} (h : RsAt s pos acc true) (hp : pos < s.length) (hs : ¬ (s[pos] = 34 ∨ s[pos] = 92)) : PStr s zerV [] false := by
  refine ⟨fun e => by simp at e, fun _ => ⟨rfl, rfl⟩, fun b r hb hr => ?_⟩
  obtain ⟨b2, e, q⟩ := h.cmp b r hb hr
  rw [drop_one hp] at q
  obtain ⟨c, b', e2, hc, s', h2, q'⟩ := q.opened
  injection h2 with h3 _; exact absurd (h3 ▸ hc) hs
theorem RsAt.ended {s : By} {pos : Nat} {acc : By} {esc : Bool} (h : RsAt s pos acc esc) (hp : ¬ pos < s.length) : PStr s zerV [] false := by
  refine ⟨fun e => by simp at e, fun _ => ⟨rfl, rfl⟩, fun b r hb hr => ?_⟩
  obtain ⟨b2, e, q⟩ := h.cmp b r hb hr
  rw [List.drop_of_length_le (by omega)] at q
  cases esc
  · rcases q.split with ⟨e2, h2⟩ | ⟨c, b', e2, _, s', h2, q'⟩ | ⟨c, b', e2, hc, s', h2, q'⟩ <;> simp at h2
  · obtain ⟨c, b', e2, hc, s', h2, q'⟩ := q.opened
    simp at h2
theorem rune_high {r : Int} (h : 128 ≤ r) : ¬ ascii (Lib.encodeRune r) := by
  intro ha
  have key : ∃ x ∈ Lib.encodeRuneZ r, 128 ≤ x ∧ x < 256 := by
    have hb := Lib.encodeRuneZ_byte r
    unfold Lib.encodeRuneZ at hb ⊢
    split at hb
    · omega
    · rename_i h1
      rw [if_neg h1]
      split at hb
      · rename_i h2; rw [if_pos h2]
        exact ⟨128 + r % 64, by simp, by omega, by omega⟩
      · rename_i h2; rw [if_neg h2]
        split at hb
        · rename_i h3; rw [if_pos h3]
          exact ⟨128 + r % 64, by simp, by omega, by omega⟩
        · rename_i h3; rw [if_neg h3]
          split at hb
          · rename_i h4; rw [if_pos h4]
            exact ⟨128 + r % 64, by simp, by omega, by omega⟩
          · rename_i h4; rw [if_neg h4]
            exact ⟨239, by simp, by omega, by omega⟩
  obtain ⟨x, hx, h1, h2⟩ := key
  have := ha x.toNat.toUInt8 (by unfold Lib.encodeRune; exact List.mem_map_of_mem (f := fun x => x.toNat.toUInt8) hx)
  have e : (x.toNat.toUInt8).toNat = x.toNat := by simp; omega
  omega
theorem RsAt.high {s : By} {pos w : Nat} {acc x : By} (h : RsAt s pos acc false) (hp : pos < s.length) (hc : 128 ≤ s[pos].toNat) (hw : w ≤ 4) (hw1 : 1 ≤ w) (hx : ¬ ascii x) (hxl : x.length ≤ 4) : RsAt s (pos + w) (acc ++ x) false := by
  refine ⟨by omega, by rw [List.length_append]; have := h.len; omega, fun ha => absurd (ascii_app.1 ha).2 hx, fun b r hb hr => ?_⟩
  obtain ⟨b2, e, q⟩ := h.cmp b r hb hr
  rw [drop_one hp] at q
  exfalso
  rcases q.split with ⟨_, h2⟩ | ⟨c, b', e2, _, s', h2, q'⟩ | ⟨c, b', e2, hc2, s', h2, q'⟩
  · injection h2 with h3 _; rw [h3] at hc; revert hc; decide
  · injection h2 with h3 _; rw [h3] at hc; revert hc; decide
  · injection h2 with h3 _
    have := hb c (by rw [e, e2]; simp)
    rw [← h3] at this; omega

/-- What a reader hands back. -/
def RdEnd (Q : V → By → Bool → Prop) (w : World) (e : Ending) (w' : World) : Prop :=
  ∃ (v : V) (sl : Value) (rest : By) (ok : Bool), e = .returned (.tuple #[.agg #[.int .u8 v.nd.k, .int .i64 v.nd.n, .int .i64 v.nd.d, .bool v.nd.t, .string v.nd.s, sl], .string (bA rest), .bool ok]) ∧ RepL (w.heap.size ≤ ·) w' v.list sl ∧ Q v rest ok ∧ Below w.heap.size w w'
theorem ret_rd {a b : Nd} {sl : Value} {x y : ByteArray} {c : Bool} (h : a = b) (h2 : x = y) : Ending.returned (.tuple #[.agg #[.int .u8 a.k, .int .i64 a.n, .int .i64 a.d, .bool a.t, .string a.s, sl], .string x, .bool c]) = .returned (.tuple #[.agg #[.int .u8 b.k, .int .i64 b.n, .int .i64 b.d, .bool b.t, .string b.s, sl], .string y, .bool c]) := by rw [h, h2]
theorem byte_at {s : ByteArray} {pos : Nat} (h : pos < s.size) : (lA s)[pos]'(by rw [lA_len]; exact h) = s[pos] := rfl
theorem drop_ext (s : ByteArray) (k : Nat) : bA ((lA s).drop k) = s.extract k s.size := by
  apply ByteArray.ext
  rw [ByteArray.data_extract]
  show ((lA s).drop k).toArray = s.data.extract k s.size
  apply Array.ext'
  rw [Array.toList_extract]
  show s.data.toList.drop k = (s.data.toList.drop k).take (s.size - k)
  rw [List.take_of_length_le]
  rw [List.length_drop]
  have := lA_len s; unfold lA at this; omega
structure RsW (s : ByteArray) (w : World) (pos : Nat) (acc : By) (esc : Bool) (wr : World) : Prop where
  at_ : RsAt (lA s) pos acc esc
  bon : Bon (w.heap.size + 1) acc wr
  it : wr.heap[w.heap.size + 1 + 1]? = some (.stringIter s pos)
  six : Six wr w.heap.size ⟨0, 0, 0, false, ⟨#[]⟩⟩ (.slice none 0 0)
  below : Below w.heap.size w wr
  size : w.heap.size + 3 ≤ wr.heap.size
theorem RsW.step {s : ByteArray} {w : World} {pos pos' : Nat} {acc acc' : By} {esc esc' : Bool} {wr w1 : World} (h : RsW s w pos acc esc wr) (ha : RsAt (lA s) pos' acc' esc') (hb : Bon (w.heap.size + 1) acc' w1) (hit : w1.heap[w.heap.size + 1 + 1]? = some (.stringIter s pos')) (hl : Below (w.heap.size + 1) wr w1) : RsW s w pos' acc' esc' w1 :=
  ⟨ha, hb, hit, (hl.block _ (Nat.lt_succ_self _)).trans h.six, h.below.trans (hl.mono (Nat.le_succ _)), Nat.le_trans h.size hl.size⟩

theorem dec_width (s : ByteArray) (i : Nat) : (Utf8.decode s i).2 ≤ 4 := by
  simp only [Utf8.decode]
  repeat' split
  all_goals simp
set_option maxHeartbeats 4000000 in
theorem readstr_any (s : ByteArray) (hs : s.size ≤ 5000) (w : World) : Calls Tryz.prog 74 #[.string s] w (RdEnd (PStr (lA s)) w) := by
  have S0 : Hid (RsW s w 0 [] false ((((w.alloc (.cells #[.int .u8 0, .int .i64 0, .int .i64 0, .bool false, .string ⟨#[]⟩, .slice none 0 0] 28)).alloc (.cells #[.pointer none, .slice none 0 0] 125)).iter s 0))) := Lib.hid (by
    have hb := (Bon.fresh (w.alloc (.cells #[.int .u8 0, .int .i64 0, .int .i64 0, .bool false, .string ⟨#[]⟩, .slice none 0 0] 28))).alloc (.stringIter s 0)
    have hi := iter_new ((w.alloc (.cells #[.int .u8 0, .int .i64 0, .int .i64 0, .bool false, .string ⟨#[]⟩, .slice none 0 0] 28)).alloc (.cells #[.pointer none, .slice none 0 0] 125)) s
    rw [World.size_alloc] at hb
    rw [World.size_alloc, World.size_alloc] at hi
    refine ⟨RsAt.start _, hb, hi, heap_alloc_old (heap_alloc_old (heap_alloc_new _ _) _) _, (((Below.refl _ _).alloc (Nat.le_refl _) _).alloc (by simp) _).alloc (by simp; omega) _, by simp [World.iter]⟩)
  have KR := Lib.hid (fun (acc : By) (r : Int) (w1 : World) (h0 : -2147483648 ≤ r) (h1 : r ≤ 2147483647) (h : Bon (w.heap.size + 1) acc w1) (hl : acc.length ≤ 1000000) (hb : w.heap.size + 1 ≤ w1.heap.size) => rune_any (w.heap.size + 1) (w.heap.size + 1) (Lib.byteCells acc) r h0 h1 w1 h (by rw [Lib.byteCells_length]; exact hl) hb)
  have KS := Lib.hid (fun (acc : By) (w1 : World) (h : Bon (w.heap.size + 1) acc w1) (hb : w.heap.size + 1 ≤ w1.heap.size) => wstring (w.heap.size + 1) acc w1 h hb)
  go_enter Tryz.func74, Tryz.ntmps74
  go_wp2_with fail
  go_loopw [6] (fun es wr => ∃ (pos : Nat) (acc : By) (esc : Bool), es = .bool esc ∧ RsW s w pos acc esc wr) (fun _ wr => s.size + 10 - wr.iterPos (w.heap.size + 1 + 1))
  case atStart => exact ⟨0, [], false, rfl, S0.out⟩
  case round =>
    obtain ⟨pos, acc, esc, rfl, hW⟩ := hrel
    have HW := Lib.hid hW
    have hit := hW.it
    have HI := Lib.hid hit
    have l1 := hW.six.lt
    have q0 := hW.six.row.c0
    have q1 := hW.six.row.c1
    have q2 := hW.six.row.c2
    have q3 := hW.six.row.c3
    have q4 := hW.six.row.c4
    have q5 := hW.six.row.c5
    have f0 := hW.six.free 0
    have f1 := hW.six.free 1
    have f2 := hW.six.free 2
    have f3 := hW.six.free 3
    have f4 := hW.six.free 4
    have f5 := hW.six.free 5
    simp only [Nat.zero_add] at q1 q2 q3 q4 q5
    clear hW S0
    by_cases hp : pos < s.size
    · have hp' : pos < (lA s).length := by rw [lA_len]; exact hp
      by_cases ha : (s[pos]'hp).toNat < 128
      · have hnx : ∀ ty, (Instr.next (.pointer (some ⟨w.heap.size + 1 + 1, 0, none⟩)) true ty).run Tryz.prog wr = _ := fun ty => Lib.run_next_ascii_at wr (w.heap.size + 1 + 1) s pos ty hit hp ha
        obtain ⟨c, hc⟩ : ∃ c, c = s[pos]'hp := ⟨_, rfl⟩
        rw [← hc] at hnx ha
        have hu1 : c = 34 ↔ ((c.toNat : Nat) : Int) = 34 := ⟨fun h => by subst h; rfl, fun h => UInt8.toNat_inj.1 (by show c.toNat = 34; omega)⟩
        have hu2 : c = 92 ↔ ((c.toNat : Nat) : Int) = 92 := ⟨fun h => by subst h; rfl, fun h => UInt8.toNat_inj.1 (by show c.toNat = 92; omega)⟩
        have HU1 := Lib.hid hu1
        have HU2 := Lib.hid hu2
        clear hu1 hu2
        have HE := Lib.hid hc
        obtain ⟨W2, hW2⟩ : ∃ W2, W2 = wr.iterAt (w.heap.size + 1 + 1) s (pos + 1) := ⟨_, rfl⟩
        have hbn2 : Bon (w.heap.size + 1) acc W2 := by rw [hW2]; exact HW.out.bon.iterAt hit _
        have hit2 : W2.heap[w.heap.size + 1 + 1]? = some (.stringIter s (pos + 1)) := by rw [hW2]; exact Lib.iterAt_heap wr (w.heap.size + 1 + 1) s pos (pos + 1) hit
        have hbw2 : Below (w.heap.size + 1) wr W2 := by rw [hW2]; exact Lib.below_iterAt (Below.refl _ _) (k := w.heap.size + 1 + 1) (Nat.le_succ _) s (pos + 1)
        have HB2 := Lib.hid hbn2
        have HI2 := Lib.hid hit2
        have HL2 := Lib.hid hbw2
        have S2 : Hid (Six W2 w.heap.size ⟨0, 0, 0, false, ⟨#[]⟩⟩ (.slice none 0 0)) := Lib.hid ((hbw2.block _ (Nat.lt_succ_self _)).trans HW.out.six)
        have l1 := S2.out.lt
        have q0 := S2.out.row.c0
        have q1 := S2.out.row.c1
        have q2 := S2.out.row.c2
        have q3 := S2.out.row.c3
        have q4 := S2.out.row.c4
        have q5 := S2.out.row.c5
        have f0 := S2.out.free 0
        have f1 := S2.out.free 1
        have f2 := S2.out.free 2
        have f3 := S2.out.free 3
        have f4 := S2.out.free 4
        have f5 := S2.out.free 5
        simp only [Nat.zero_add] at q1 q2 q3 q4 q5
        have hz2 : w.heap.size + 1 ≤ W2.heap.size := Nat.le_trans (by have := HW.out.size; omega) hbw2.size
        have HSz := Lib.hid hz2
        have hlen : acc.length ≤ 1000000 := by have := HW.out.at_.len; have := HW.out.at_.bnd; rw [lA_len] at this; omega
        rw [← hW2] at hnx
        have HC1 : Hid ((lA s)[pos] = c) := Lib.hid (by rw [hc]; rfl)
        clear hW2 hit hbn2 hit2 hbw2 hz2 hc
        cases esc
        · by_cases z2 : ((c.toNat : Nat) : Int) = 92
          · have HN := Lib.hid (HW.out.at_.back hp' (HC1.out.trans (HU2.out.2 z2)))
            go_wp2_with fail
            go_roundw
            case rel => exact ⟨pos + 1, acc, true, rfl, HW.out.step HN.out HB2.out HI2.out HL2.out⟩
            case measure => simp only [World.iterPos, HI2.out, HI.out]; omega
          · by_cases z1 : ((c.toNat : Nat) : Int) = 34
            · have HN := Lib.hid (HW.out.at_.quote hp' (HC1.out.trans (HU1.out.2 z1)))
              have HD := Lib.hid (drop_ext s (pos + 1))
              have y1 : (pos : Int) + 1 ≤ (s.size : Int) := by omega
              have y0 : (0 : Int) ≤ (pos : Int) + 1 := by omega
              have yt : ((pos : Int) + 1).toNat = pos + 1 := by omega
              have yw : IntKind.i64.wrap ((pos : Int) + 1) = (pos : Int) + 1 := by rw [IntKind.wrap_i64]; omega
              have KSa := Lib.hid (KS.out acc W2.drew HB2.out HSz.out)
              clear HC1 HU1 HU2
              go_wp2_with fail
              go_region_law (first
                | (go_simp; go_at_call 98; refine KSa.out.mono ?_; rintro e w3 ⟨rfl, hb3⟩
                   have S3 : Hid (Six w3 w.heap.size ⟨0, 0, 0, false, ⟨#[]⟩⟩ (.slice none 0 0)) := Lib.hid ((hb3.block _ (Nat.lt_succ_self _)).trans S2.out)
                   have HB3 : Hid (Below (w.heap.size + 1) W2 w3) := Lib.hid ((Below.refl _ _).drew.trans hb3)
                   have l3 := S3.out.lt
                   have p0 := S3.out.row.c0
                   have p1 := S3.out.row.c1
                   have p2 := S3.out.row.c2
                   have p3 := S3.out.row.c3
                   have p4 := S3.out.row.c4
                   have p5 := S3.out.row.c5
                   have g0 := S3.out.free 0
                   have g1 := S3.out.free 1
                   have g2 := S3.out.free 2
                   have g3 := S3.out.free 3
                   have g4 := S3.out.free 4
                   have g5 := S3.out.free 5
                   simp only [Nat.zero_add] at p1 p2 p3 p4 p5
                   clear hb3
                   go_simp))
              all_goals
                go_wp2_with fail
                have H6 := sixSet_six S3.out ⟨3, 0, 0, false, bA acc⟩ (.slice none 0 0)
                have HBw := sixSet_below (a := ⟨3, 0, 0, false, bA acc⟩) (sl := (.slice none 0 0)) (HW.out.below.trans ((HL2.out.trans HB3.out).mono (Nat.le_succ _))) (Nat.le_refl _)
                unfold sixSet at H6 HBw
                have e0 := H6.row.c0
                have e1 := H6.row.c1
                have e2 := H6.row.c2
                have e3 := H6.row.c3
                have e4 := H6.row.c4
                have e5 := H6.row.c5
                have e6 := H6.lt
                simp only [Nat.zero_add] at e1 e2 e3 e4 e5
                exact bodyPost_ret (v := .tuple #[.agg #[.int .u8 3, .int .i64 0, .int .i64 0, .bool false, .string (bA acc), .slice none 0 0], .string (s.extract (pos + 1) s.size), .bool true]) (by simp [results, Tryz.results74, go_sem, p0, p1, p2, p3, p4, p5, l3, e0, e1, e2, e3, e4, e5]) rfl ⟨strV acc, .slice none 0 0, (lA s).drop (pos + 1), true, by rw [HD.out]; rfl, RepL.nil _ _ _ _, HN.out, HBw⟩
            · have HR := Lib.hid (HW.out.at_.take hp' ⟨fun e => by simp at e, fun e => by rw [HC1.out] at e; exact (e.elim (fun e => z1 (HU1.out.1 e)) fun e => z2 (HU2.out.1 e)).elim⟩)
              have KRa := Lib.hid (KR.out acc c.toNat W2 (by omega) (by omega) HB2.out hlen HSz.out)
              rw [HC1.out] at HR
              have z3 : (((c.toNat : Nat) : Int) == 34) = false := beq_eq_false_iff_ne.2 z1
              have z4 : (((c.toNat : Nat) : Int) == 92) = false := beq_eq_false_iff_ne.2 z2
              rw [cells_rune c ha, ← Lib.byteCells_append] at KRa
              go_wp2_with fail
              refine KRa.out.mono ?_
              rintro e w3 ⟨⟨x, rfl⟩, hb3, hl3⟩
              have HI3 := Lib.hid (hl3.2.iter HI2.out (by omega))
              have HW3 := Lib.hid (HW.out.step HR.out (Bon.of hb3) HI3.out (HL2.out.trans hl3.1))
              clear hb3 hl3
              go_wp2_with fail
              go_roundw
              case rel => exact ⟨pos + 1, acc ++ [c], false, rfl, HW3.out⟩
              case measure => simp only [World.iterPos, HI3.out, HI.out]; omega
        · by_cases z : ((c.toNat : Nat) : Int) = 34 ∨ ((c.toNat : Nat) : Int) = 92
          · have HR := Lib.hid (HW.out.at_.take hp' ⟨fun _ => by rw [HC1.out]; exact z.imp HU1.out.2 HU2.out.2, fun _ => rfl⟩)
            have KRa := Lib.hid (KR.out acc c.toNat W2 (by omega) (by omega) HB2.out hlen HSz.out)
            rw [HC1.out] at HR
            rw [cells_rune c ha, ← Lib.byteCells_append] at KRa
            rcases z with z | z
            all_goals
              rw [z] at KRa
              go_wp2_with fail
              refine KRa.out.mono ?_
              rintro e w3 ⟨⟨x, rfl⟩, hb3, hl3⟩
              have HI3 := Lib.hid (hl3.2.iter HI2.out (by omega))
              have HW3 := Lib.hid (HW.out.step HR.out (Bon.of hb3) HI3.out (HL2.out.trans hl3.1))
              clear hb3 hl3
              go_wp2_with fail
              go_roundw
              case rel => exact ⟨pos + 1, acc ++ [c], false, rfl, HW3.out⟩
              case measure => simp only [World.iterPos, HI3.out, HI.out]; omega
          · have z1 : ¬ ((c.toNat : Nat) : Int) = 34 := fun e => z (.inl e)
            have z2 : ¬ ((c.toNat : Nat) : Int) = 92 := fun e => z (.inr e)
            have z3 : (((c.toNat : Nat) : Int) == 34) = false := beq_eq_false_iff_ne.2 z1
            have z4 : (((c.toNat : Nat) : Int) == 92) = false := beq_eq_false_iff_ne.2 z2
            have HN := Lib.hid (HW.out.at_.bad hp' (fun e => by rw [HC1.out] at e; exact z (e.imp HU1.out.1 HU2.out.1)))
            clear z
            go_wp2_with fail
            have H6 := sixSet_six S2.out ⟨0, 0, 0, false, ⟨#[]⟩⟩ (.slice none 0 0)
            have HBw := sixSet_below (a := ⟨0, 0, 0, false, ⟨#[]⟩⟩) (sl := (.slice none 0 0)) (HW.out.below.trans (HL2.out.mono (Nat.le_succ _))) (Nat.le_refl _)
            unfold sixSet at H6 HBw
            have e0 := H6.row.c0
            have e1 := H6.row.c1
            have e2 := H6.row.c2
            have e3 := H6.row.c3
            have e4 := H6.row.c4
            have e5 := H6.row.c5
            have e6 := H6.lt
            simp only [Nat.zero_add] at e1 e2 e3 e4 e5
            exact bodyPost_ret (v := .tuple #[.agg #[.int .u8 0, .int .i64 0, .int .i64 0, .bool false, .string ⟨#[]⟩, .slice none 0 0], .string ⟨#[]⟩, .bool false]) (by simp [results, Tryz.results74, go_sem, q0, q1, q2, q3, q4, q5, l1, e0, e1, e2, e3, e4, e5]) rfl ⟨zerV, .slice none 0 0, [], false, rfl, RepL.nil _ _ _ _, HN.out, HBw⟩
      · have hd := decode_high s pos hp (by omega)
        have hd2 := decode_le s pos
        have hw4 := dec_width s pos
        have hnx : ∀ ty, (Instr.next (.pointer (some ⟨w.heap.size + 1 + 1, 0, none⟩)) true ty).run Tryz.prog wr = _ := fun ty => Lib.run_next_any_at wr (w.heap.size + 1 + 1) s pos ty hit hp
        obtain ⟨r, hr⟩ : ∃ r, r = (Utf8.decode s pos).1 := ⟨_, rfl⟩
        obtain ⟨k, hk⟩ : ∃ k, k = (Utf8.decode s pos).2 := ⟨_, rfl⟩
        rw [← hr, ← hk] at hnx
        rw [← hr, ← hk] at hd
        rw [← hr] at hd2
        rw [← hk] at hw4
        obtain ⟨W2, hW2⟩ : ∃ W2, W2 = wr.iterAt (w.heap.size + 1 + 1) s (pos + k) := ⟨_, rfl⟩
        have hbn2 : Bon (w.heap.size + 1) acc W2 := by rw [hW2]; exact HW.out.bon.iterAt hit _
        have hit2 : W2.heap[w.heap.size + 1 + 1]? = some (.stringIter s (pos + k)) := by rw [hW2]; exact Lib.iterAt_heap wr (w.heap.size + 1 + 1) s pos (pos + k) hit
        have hbw2 : Below (w.heap.size + 1) wr W2 := by rw [hW2]; exact Lib.below_iterAt (Below.refl _ _) (k := w.heap.size + 1 + 1) (Nat.le_succ _) s (pos + k)
        have HB2 := Lib.hid hbn2
        have HI2 := Lib.hid hit2
        have HL2 := Lib.hid hbw2
        have S2 : Hid (Six W2 w.heap.size ⟨0, 0, 0, false, ⟨#[]⟩⟩ (.slice none 0 0)) := Lib.hid ((hbw2.block _ (Nat.lt_succ_self _)).trans HW.out.six)
        have l1 := S2.out.lt
        have q0 := S2.out.row.c0
        have q1 := S2.out.row.c1
        have q2 := S2.out.row.c2
        have q3 := S2.out.row.c3
        have q4 := S2.out.row.c4
        have q5 := S2.out.row.c5
        have f0 := S2.out.free 0
        have f1 := S2.out.free 1
        have f2 := S2.out.free 2
        have f3 := S2.out.free 3
        have f4 := S2.out.free 4
        have f5 := S2.out.free 5
        simp only [Nat.zero_add] at q1 q2 q3 q4 q5
        have hz2 : w.heap.size + 1 ≤ W2.heap.size := Nat.le_trans (by have := HW.out.size; omega) hbw2.size
        have HSz := Lib.hid hz2
        have hlen : acc.length ≤ 1000000 := by have := HW.out.at_.len; have := HW.out.at_.bnd; rw [lA_len] at this; omega
        rw [← hW2] at hnx
        have z3 : (((r : Nat) : Int) == 34) = false := beq_eq_false_iff_ne.2 (by omega)
        have z4 : (((r : Nat) : Int) == 92) = false := beq_eq_false_iff_ne.2 (by omega)
        have hbig : 128 ≤ ((lA s)[pos]).toNat := by show 128 ≤ (s[pos]'hp).toNat; omega
        have HBig := Lib.hid hbig
        clear hW2 hit hbn2 hit2 hbw2 hz2 hr hk hbig
        cases esc
        · have KRa := Lib.hid (KR.out acc r W2 (by omega) (by omega) HB2.out hlen HSz.out)
          rw [← Lib.byteCells_encodeRune, ← Lib.byteCells_append] at KRa
          have hl4 := Lib.runeCells_le (r : Int)
          rw [← Lib.byteCells_encodeRune, Lib.byteCells_length] at hl4
          have HR := Lib.hid (HW.out.at_.high hp' HBig.out hw4 hd.2 (rune_high (r := (r : Int)) (by omega)) hl4.2)
          clear hl4
          go_wp2_with fail
          refine KRa.out.mono ?_
          rintro e w3 ⟨⟨x, rfl⟩, hb3, hl3⟩
          have HI3 := Lib.hid (hl3.2.iter HI2.out (by omega))
          have HW3 := Lib.hid (HW.out.step HR.out (Bon.of hb3) HI3.out (HL2.out.trans hl3.1))
          clear hb3 hl3
          go_wp2_with fail
          go_roundw
          case rel => exact ⟨pos + k, acc ++ Lib.encodeRune r, false, rfl, HW3.out⟩
          case measure => simp only [World.iterPos, HI3.out, HI.out]; omega
        · have HN := Lib.hid (HW.out.at_.bad hp' (fun e => by have := HBig.out; rcases e with e | e <;> rw [e] at this <;> revert this <;> decide))
          go_wp2_with fail
          have H6 := sixSet_six S2.out ⟨0, 0, 0, false, ⟨#[]⟩⟩ (.slice none 0 0)
          have HBw := sixSet_below (a := ⟨0, 0, 0, false, ⟨#[]⟩⟩) (sl := (.slice none 0 0)) (HW.out.below.trans (HL2.out.mono (Nat.le_succ _))) (Nat.le_refl _)
          unfold sixSet at H6 HBw
          have e0 := H6.row.c0
          have e1 := H6.row.c1
          have e2 := H6.row.c2
          have e3 := H6.row.c3
          have e4 := H6.row.c4
          have e5 := H6.row.c5
          have e6 := H6.lt
          simp only [Nat.zero_add] at e1 e2 e3 e4 e5
          exact bodyPost_ret (v := .tuple #[.agg #[.int .u8 0, .int .i64 0, .int .i64 0, .bool false, .string ⟨#[]⟩, .slice none 0 0], .string ⟨#[]⟩, .bool false]) (by simp [results, Tryz.results74, go_sem, q0, q1, q2, q3, q4, q5, l1, e0, e1, e2, e3, e4, e5]) rfl ⟨zerV, .slice none 0 0, [], false, rfl, RepL.nil _ _ _ _, HN.out, HBw⟩
    · have hnx : ∀ ty, (Instr.next (.pointer (some ⟨w.heap.size + 1 + 1, 0, none⟩)) true ty).run Tryz.prog wr = _ := fun ty => Lib.run_next_end_at wr (w.heap.size + 1 + 1) s pos ty hit hp
      have HN := Lib.hid (HW.out.at_.ended (by rw [lA_len]; exact hp))
      have S2 := Lib.hid HW.out.six
      clear hit
      go_wp2_with fail
      have H6 := sixSet_six S2.out ⟨0, 0, 0, false, ⟨#[]⟩⟩ (.slice none 0 0)
      have HBw := sixSet_below (a := ⟨0, 0, 0, false, ⟨#[]⟩⟩) (sl := (.slice none 0 0)) HW.out.below (Nat.le_refl _)
      unfold sixSet at H6 HBw
      have e0 := H6.row.c0
      have e1 := H6.row.c1
      have e2 := H6.row.c2
      have e3 := H6.row.c3
      have e4 := H6.row.c4
      have e5 := H6.row.c5
      have e6 := H6.lt
      simp only [Nat.zero_add] at e1 e2 e3 e4 e5
      exact bodyPost_ret (v := .tuple #[.agg #[.int .u8 0, .int .i64 0, .int .i64 0, .bool false, .string ⟨#[]⟩, .slice none 0 0], .string ⟨#[]⟩, .bool false]) (by simp [results, Tryz.results74, go_sem, q0, q1, q2, q3, q4, q5, l1, e0, e1, e2, e3, e4, e5]) rfl ⟨zerV, .slice none 0 0, [], false, rfl, RepL.nil _ _ _ _, HN.out, HBw⟩
end Go.Proofs.YtakjgjhjndiggaaGreatDoor
