/-
  What the reading of a frame comes to, in the model's way of reading.
-/
import Derived.Test.YtlpapncgcgllfaaRead3
namespace Go.Proofs.Ytlpapncgcgllfaa
open Go.RowKit Go.PlainAid
theorem nextF_true (s : ByteArray) (p k : Int) : nextF s p k true = true := by unfold nextF; split <;> rfl
theorem nextF_no {s : ByteArray} {p k : Int} (f : Bool) (h : okN s p k = false) : nextF s p k f = true := by unfold nextF; rw [h]; rfl
theorem nextF_yes {s : ByteArray} {p k : Int} (f : Bool) (h : okN s p k = true) : nextF s p k f = f := by unfold nextF; rw [h]; rfl
theorem nextP_yes {s : ByteArray} {p k : Int} (h : okN s p k = true) : nextP s p k = p + k := by unfold nextP; rw [h]; rfl
theorem nextP_no {s : ByteArray} {p k : Int} (h : okN s p k = false) : nextP s p k = p := by unfold nextP; rw [h]; rfl
theorem okY {s : ByteArray} {p k : Int} (h : 1 ≤ k ∧ k ≤ 7 ∧ 0 ≤ p ∧ p + k ≤ s.size) : okN s p k = true := (okN_true h).1
theorem okZ {s : ByteArray} {p k : Int} (h : ¬ (1 ≤ k ∧ k ≤ 7 ∧ 0 ≤ p ∧ p + k ≤ s.size)) : okN s p k = false := (okN_false h).1
theorem tgo_f (s : ByteArray) : ∀ (n : Nat) (l : List Int) (t p : Int), (tgo s n l t p true).f = true
  | 0, l, t, p => rfl
  | n + 1, l, t, p => by
    rw [tgo]; split
    · rw [nextF_true, nextF_true]; exact tgo_f s n _ _ _
    · rfl
theorem rd_short {s : ByteArray} (h : s.size < 14) : rdOk s = false := by
  have key : nextF s (nextP s (nextP s 0 6) 6) 2 (nextF s (nextP s 0 6) 6 (nextF s 0 6 false)) = true := by
    by_cases h6 : 6 ≤ s.size
    · have e1 : okN s 0 6 = true := okY ⟨by decide, by decide, by decide, by omega⟩
      rw [nextP_yes e1, nextF_yes _ e1]
      by_cases h12 : 12 ≤ s.size
      · have e2 : okN s (0 + 6) 6 = true := okY ⟨by decide, by decide, by decide, by omega⟩
        rw [nextP_yes e2]
        exact nextF_no _ (okZ (by omega))
      · rw [nextF_no (p := 0 + 6) _ (okZ (by omega))]; exact nextF_true _ _ _
    · rw [nextF_no (p := 0) _ (okZ (by omega)), nextF_true]; exact nextF_true _ _ _
  have hf : (rdR s).f = true := by unfold rdR tread; rw [key]; exact tgo_f _ _ _ _ _
  unfold rdOk; rw [hf]; rfl
theorem rd_start {s : ByteArray} (h : 14 ≤ s.size) : nextP s 0 6 = 6 ∧ tgo s 2 [] (numAt s 12 2) (12 + 2) false = rdR s := by
  have e1 : okN s 0 6 = true := okY ⟨by decide, by decide, by decide, by omega⟩
  have e2 : okN s 6 6 = true := okY ⟨by decide, by decide, by decide, by omega⟩
  have e3 : okN s 12 2 = true := okY ⟨by decide, by decide, by decide, by omega⟩
  have n1 : nextP s 0 6 = 6 := nextP_yes e1
  have n2 : nextP s 6 6 = 12 := nextP_yes e2
  refine ⟨n1, ?_⟩
  unfold rdR tread
  rw [nextF_yes _ e1, n1, nextF_yes _ e2, n2, nextF_yes _ e3, nextP_yes e3]
theorem tgo_step {s : ByteArray} {n : Nat} {l : List Int} {a : Int} (h : a + 6 ≤ s.size) (h0 : 0 ≤ a) : tgo s (n + 1) l 33024 (a + 2) false = tgo s n (l ++ [numAt s (a + 2) 2]) (numAt s (a + 4) 2) (a + 4 + 2) false := by
  have e1 : okN s (a + 2) 2 = true := okY (by omega)
  have e2 : okN s (a + 4) 2 = true := okY (by omega)
  rw [tgo, if_pos rfl, nextF_yes _ e1, nextP_yes e1, show a + 2 + 2 = a + 4 by omega, nextF_yes _ e2, nextP_yes e2]
theorem rd_exit {s : ByteArray} {tags : List Int} {a : Int} (ha : 0 ≤ a) (h14 : 14 ≤ s.size) (hR : tgo s (2 - tags.length) tags (numAt s a 2) (a + 2) false = rdR s) (hx : ¬ (a + 6 ≤ s.size ∧ numAt s a 2 = 33024 ∧ tags.length < 2)) :
    rdOk s = frameB (numAt s 0 6) (numAt s 6 6) tags (numAt s a 2) (s.extract (a + 2).toNat s.size) ∧ (rdOk s = true → rdFr s = ⟨numAt s 0 6, numAt s 6 6, tags, numAt s a 2, s.extract (a + 2).toNat s.size⟩) := by
  by_cases hk : numAt s a 2 = 33024 ∧ tags.length < 2
  · have h6 : ¬ a + 6 ≤ s.size := fun h => hx ⟨h, hk⟩
    obtain ⟨m, hm⟩ : ∃ m, 2 - tags.length = m + 1 := ⟨1 - tags.length, by omega⟩
    rw [hm, tgo, if_pos hk.1] at hR
    have key : nextF s (nextP s (a + 2) 2) 2 (nextF s (a + 2) 2 false) = true := by
      by_cases h4 : a + 4 ≤ s.size
      · have e : okN s (a + 2) 2 = true := okY (by omega)
        rw [nextP_yes e]; exact nextF_no _ (okZ (by omega))
      · rw [nextF_no (p := a + 2) _ (okZ (by omega))]; exact nextF_true _ _ _
    rw [key] at hR
    have hf : (rdR s).f = true := by rw [← hR]; exact tgo_f _ _ _ _ _
    have ho : rdOk s = false := by unfold rdOk; rw [hf]; rfl
    refine ⟨?_, fun h => by rw [ho] at h; cases h⟩
    rw [ho, hk.1]; unfold frameB typeB; simp
  · have hE : rdR s = ⟨tags, numAt s a 2, a + 2, false⟩ := by
      rw [← hR]
      cases hm : 2 - tags.length with
      | zero => rfl
      | succ n => rw [tgo, if_neg (fun e => hk ⟨e, by omega⟩)]
    have hX : rdX s = s.extract (a + 2).toNat s.size := by unfold rdX; rw [hE]
    have ho : rdOk s = frameB (numAt s 0 6) (numAt s 6 6) tags (numAt s a 2) (s.extract (a + 2).toNat s.size) := by
      unfold rdOk; rw [hX, hE, (rd_start h14).1]; rfl
    refine ⟨ho, fun h => ?_⟩
    rw [rdFr_yes h, hX, hE, (rd_start h14).1]
end Go.Proofs.Ytlpapncgcgllfaa
