/-
  The reference's Parse hands back what the package's does.
-/
import Derived.Test.YtchjkjhkmhkjeaaDoorRatRefParse
namespace Go.Proofs.YtchjkjhkmhkjeaaDoor
open Go.RowKit
open RM
set_option linter.unusedVariables false
set_option linter.unusedSimpArgs false

def Same (s : ByteArray) (x y f : Int) : Prop := x = parN s ∧ y = parD s ∧ f = parE s
theorem same_bad {s : ByteArray} (h : parE s ≠ 0) : Same s 0 0 12 := by
  obtain ⟨a, b, c⟩ := par_bad h
  exact ⟨b.symm, c.symm, a.symm⟩
theorem same_text {s : ByteArray} {n d : Int} (hv : vld n d = true) (e : s = textB n d) : Same s n d 0 := by
  subst e
  obtain ⟨a, b, c⟩ := par_text hv
  exact ⟨b.symm, c.symm, a.symm⟩
theorem vld_of_chk {n d : Int} (h : chk n d = 0) : vld n d = true := by
  cases hv : vld n d with
  | true => rfl
  | false => rw [chk_not hv] at h; simp at h
theorem noslash_list {s : ByteArray} {k : Nat} (hk : k ≤ s.size) (h : NoSlash s k) : (47 : UInt8) ∉ s.data.toList.take k := by
  intro hm
  obtain ⟨j, hj, e⟩ := List.mem_iff_getElem.1 hm
  have hj2 : j < k := by rw [List.length_take] at hj; omega
  rw [List.getElem_take] at e
  exact h j hj2 (by omega) e

theorem whole_same (s : ByteArray) : Whole s (Same s) := by
  intro hn v b hs
  have hno := noslash_list (Nat.le_refl _) hn
  rw [List.take_of_length_le (by rw [Array.length_toList]; exact Nat.le_refl _)] at hno
  have key : parE s = 0 → b = true ∧ vld v 1 = true := by
    intro h0
    obtain ⟨hv, e⟩ := par_fine h0
    obtain ⟨h1, h2, h3, h4, _⟩ := vld_iff.1 hv
    have hd : parD s = 1 := by
      by_cases hd : parD s = 1
      · exact hd
      · refine absurd ?_ hno
        rw [← e]; show (47 : UInt8) ∈ textL _ _
        unfold textL; rw [if_neg hd]; simp
    have e2 : s = ⟨(Lib.itoa (parN s)).toArray⟩ := by
      have : textB (parN s) (parD s) = ⟨(Lib.itoa (parN s)).toArray⟩ := by unfold textB textL; rw [if_pos hd]
      rw [← this]; exact e.symm
    obtain ⟨hb, hv2⟩ := hs.2 (parN s) h3 h4 e2
    exact ⟨hb, by rw [hv2, ← hd]; exact hv⟩
  refine ⟨fun hb => same_bad fun h0 => ?_, fun hb => ⟨fun hc => same_bad fun h0 => ?_, fun hc => ?_⟩⟩
  · have := (key h0).1; rw [hb] at this; simp at this
  · exact hc (chk_valid (key h0).2)
  · refine same_text (vld_of_chk hc) ?_
    rw [(hs.1 hb).1]; unfold textB textL; rw [if_pos rfl]

theorem cutted_same (s : ByteArray) : Cutted s (Same s) := by
  intro k hk hc hn v b hs
  have hno := noslash_list (Nat.le_of_lt hk) hn
  have hk' : k < s.data.toList.length := hk
  have eA : (s.extract 0 k).data.toList = s.data.toList.take k := by simp [ByteArray.data_extract]
  have eB : (s.extract (k + 1) s.size).data.toList = s.data.toList.drop (k + 1) := by
    simp only [ByteArray.data_extract, Array.toList_extract, List.extract]
    rw [List.take_of_length_le]
    rw [List.length_drop, Array.length_toList]; exact Nat.le_refl _
  have hl : s.data.toList = s.data.toList.take k ++ 47 :: s.data.toList.drop (k + 1) := by
    have h47 : s.data.toList[k] = 47 := hc
    rw [← h47, ← List.drop_eq_getElem_cons hk', List.take_append_drop]
  have hcut : Lib.cut s.data.toList [47] = (s.data.toList.take k, s.data.toList.drop (k + 1), true) := by
    have := cut_at (s.data.toList.drop (k + 1)) hno
    rwa [← hl] at this
  have key : parE s = 0 → s.extract 0 k = ⟨(Lib.itoa (parN s)).toArray⟩ ∧ s.extract (k + 1) s.size = ⟨(Lib.itoa (parD s)).toArray⟩ ∧ parD s ≠ 1 ∧ vld (parN s) (parD s) = true := by
    intro h0
    obtain ⟨hv, e⟩ := par_fine h0
    have ht := text_cut (parN s) (parD s)
    rw [e, hcut] at ht
    by_cases hd : parD s = 1
    · rw [if_pos hd] at ht; simp at ht
    · rw [if_neg hd] at ht
      simp only [Prod.mk.injEq, and_true] at ht
      refine ⟨?_, ?_, hd, hv⟩
      · apply ByteArray.ext; apply Array.toList_inj.1; rw [eA, ht.1]
      · apply ByteArray.ext; apply Array.toList_inj.1; rw [eB, ht.2]
  refine ⟨fun hb => same_bad fun h0 => ?_, fun hb u c hs2 => ⟨fun hc2 => same_bad fun h0 => ?_, fun hc2 => ⟨fun hu => same_bad fun h0 => ?_, fun hu hch => same_bad fun h0 => ?_, fun hu hch => ?_⟩⟩⟩
  · obtain ⟨k1, k2, k3, hv⟩ := key h0
    obtain ⟨h1, h2, h3, h4, _⟩ := vld_iff.1 hv
    have := (hs.2 _ h3 h4 k1).1; rw [hb] at this; simp at this
  · obtain ⟨k1, k2, k3, hv⟩ := key h0
    obtain ⟨h1, h2, h3, h4, _⟩ := vld_iff.1 hv
    have := (hs2.2 _ (by omega) h2 k2).1; rw [hc2] at this; simp at this
  · obtain ⟨k1, k2, k3, hv⟩ := key h0
    obtain ⟨h1, h2, h3, h4, _⟩ := vld_iff.1 hv
    have := (hs2.2 _ (by omega) h2 k2).2
    exact k3 (by rw [← this]; exact hu)
  · obtain ⟨k1, k2, k3, hv⟩ := key h0
    obtain ⟨h1, h2, h3, h4, _⟩ := vld_iff.1 hv
    have e1 := (hs.2 _ h3 h4 k1).2
    have e2 := (hs2.2 _ (by omega) h2 k2).2
    exact hch (by rw [e1, e2]; exact chk_valid hv)
  · refine same_text (vld_of_chk hch) ?_
    have f1 := congrArg (fun x : ByteArray => x.data.toList) (hs.1 hb).1
    have f2 := congrArg (fun x : ByteArray => x.data.toList) (hs2.1 hc2).1
    simp only [eA, eB] at f1 f2
    apply ByteArray.ext; apply Array.toList_inj.1
    rw [hl, f1, f2]
    show _ = (textL v u).toArray.toList
    unfold textL; rw [if_neg hu]

theorem refparse_any (s : ByteArray) (hs : s.size ≤ 1000) (w : World) :
    Calls Tryd.prog 15 #[.string s] w fun e w' => e = .returned (.tuple #[.agg #[.int .i64 (parN s), .int .i64 (parD s)], .int .i64 (parE s)]) ∧ Below w.heap.size w w' := by
  refine (refparse_walk s hs w (Same s) (cutted_same s) (whole_same s)).mono ?_
  rintro e w' ⟨⟨x, y, f, rfl, rfl, rfl, rfl⟩, hb⟩
  exact ⟨rfl, hb⟩
end Go.Proofs.YtchjkjhkmhkjeaaDoor
