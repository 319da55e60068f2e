/-
  Plain facts: a frame comes back from its bytes; what is read, written again, is these.
-/
import Derived.Test.YtlpapncgcgllfaaLawCut2
namespace Go.Proofs.Ytlpapncgcgllfaa
open Go.RowKit Go.PlainAid
theorem frame_facts {d s : Int} {l : List Int} {t : Int} {x : ByteArray} (h : frameB d s l t x = true) : (0 ≤ d ∧ d ≤ 281474976710655) ∧ (0 ≤ s ∧ s ≤ 281474976710655) ∧ l.length ≤ 2 ∧ (∀ g ∈ l, 0 ≤ g ∧ g ≤ 65535) ∧ (1536 ≤ t ∧ t ≤ 65535 ∧ t ≠ 33024) := by
  unfold frameB at h
  simp only [Bool.and_eq_true, decide_eq_true_eq, tagsB] at h
  obtain ⟨⟨⟨⟨m1, m2⟩, m3, m4⟩, m5⟩, m6⟩ := h
  unfold typeB at m5
  rw [Bool.and_eq_true] at m5
  have q5 := of_inB m5.1
  refine ⟨of_inB m1, of_inB m2, m3, fun g hg => ?_, q5.1, q5.2, by simpa using m5.2⟩
  unfold tagsIn at m4
  rw [List.all_eq_true] at m4
  exact of_inB (m4 g hg)
theorem read_back {d s : Int} {l : List Int} {t : Int} {x : ByteArray} (h : frameB d s l t x = true) :
    rdOk (str (fbytes d s l t x)) = true ∧ rdFr (str (fbytes d s l t x)) = ⟨d, s, l, t, x⟩ := by
  obtain ⟨q1, q2, ql, qg, q5, q5', q6⟩ := frame_facts h
  have hlen := fbytes_len0 d s l t x
  have hsz := str_size (fbytes d s l t x)
  have e1 : numAt (str (fbytes d s l t x)) 0 6 = d := by
    have := num_mid (a := []) (c := be 6 s ++ (tagBytes l ++ (be 2 t ++ bl x))) (n := d) (k := 6) 0 rfl (by decide) (by decide) q1.1 (by omega)
    simpa [fbytes, fpre] using this
  have e2 : numAt (str (fbytes d s l t x)) 6 6 = s := by
    have := num_mid (a := be 6 d) (c := tagBytes l ++ (be 2 t ++ bl x)) (n := s) (k := 6) 6 (by rw [be_length]; rfl) (by decide) (by decide) q2.1 (by omega)
    simpa [fbytes, fpre] using this
  have et : ∀ a : Int, a = 12 + 4 * (l.length : Int) → numAt (str (fbytes d s l t x)) a 2 = t := by
    intro a ha
    have := num_mid (a := fpre d s l) (c := bl x) (n := t) (k := 2) a (by rw [fpre_length]; omega) (by decide) (by decide) (by omega) (by omega)
    simpa [fbytes] using this
  have ex : ∀ a : Int, a = 12 + 4 * (l.length : Int) → (str (fbytes d s l t x)).extract (a + 2).toNat (str (fbytes d s l t x)).size = x := by
    intro a ha
    rw [hsz, str_extract]
    have e : (fpre d s l ++ be 2 t).length = (a + 2).toNat := by rw [List.length_append, fpre_length, be_length]; omega
    have e' : List.drop (a + 2).toNat (fbytes d s l t x) = bl x := by
      rw [← e]; unfold fbytes; exact List.drop_left
    rw [e', List.take_of_length_le (by rw [bl_length]; omega), str_bl]
  have h14 : 14 ≤ (str (fbytes d s l t x)).size := by omega
  have hst := (rd_start h14).2
  have fin : ∀ (a : Int), a = 12 + 4 * (l.length : Int) → tgo (str (fbytes d s l t x)) (2 - l.length) l (numAt (str (fbytes d s l t x)) a 2) (a + 2) false = rdR (str (fbytes d s l t x)) → rdOk (str (fbytes d s l t x)) = true ∧ rdFr (str (fbytes d s l t x)) = ⟨d, s, l, t, x⟩ := by
    intro a ha hR
    have hx := rd_exit (s := str (fbytes d s l t x)) (tags := l) (a := a) (by omega) h14 hR (by rw [et a ha]; intro hh; exact q6 hh.2.1)
    rw [e1, e2, et a ha, ex a ha] at hx
    have ok := hx.1.trans h
    exact ⟨ok, hx.2 ok⟩
  rcases l with _ | ⟨g1, _ | ⟨g2, _ | ⟨g3, r⟩⟩⟩
  · exact fin 12 (by simp) hst
  · skip
    have qg1 := qg g1 (by simp)
    have n1 : numAt (str (fbytes d s [g1] t x)) 12 2 = 33024 := by
      have := num_mid (a := be 6 d ++ be 6 s) (c := be 2 g1 ++ (be 2 t ++ bl x)) (n := 33024) (k := 2) 12 (by rw [List.length_append, be_length, be_length]; rfl) (by decide) (by decide) (by decide) (by decide)
      simpa [fbytes, fpre, tagBytes] using this
    have n2 : numAt (str (fbytes d s [g1] t x)) 14 2 = g1 := by
      have := num_mid (a := be 6 d ++ be 6 s ++ be 2 33024) (c := be 2 t ++ bl x) (n := g1) (k := 2) 14 (by simp only [List.length_append, be_length]; rfl) (by decide) (by decide) qg1.1 (by omega)
      simpa [fbytes, fpre, tagBytes] using this
    simp only [List.length_cons, List.length_nil] at hlen
    rw [n1, tgo_step (a := 12) (n := 1) (by omega) (by omega)] at hst
    rw [show (12 : Int) + 2 = 14 by decide, n2] at hst
    exact fin 16 (by simp) hst
  · skip
    have qg1 := qg g1 (by simp)
    have qg2 := qg g2 (by simp)
    have n1 : numAt (str (fbytes d s [g1, g2] t x)) 12 2 = 33024 := by
      have := num_mid (a := be 6 d ++ be 6 s) (c := be 2 g1 ++ (be 2 33024 ++ (be 2 g2 ++ (be 2 t ++ bl x)))) (n := 33024) (k := 2) 12 (by rw [List.length_append, be_length, be_length]; rfl) (by decide) (by decide) (by decide) (by decide)
      simpa [fbytes, fpre, tagBytes] using this
    have n2 : numAt (str (fbytes d s [g1, g2] t x)) 14 2 = g1 := by
      have := num_mid (a := be 6 d ++ be 6 s ++ be 2 33024) (c := be 2 33024 ++ (be 2 g2 ++ (be 2 t ++ bl x))) (n := g1) (k := 2) 14 (by simp only [List.length_append, be_length]; rfl) (by decide) (by decide) qg1.1 (by omega)
      simpa [fbytes, fpre, tagBytes] using this
    have n3 : numAt (str (fbytes d s [g1, g2] t x)) 16 2 = 33024 := by
      have := num_mid (a := be 6 d ++ be 6 s ++ be 2 33024 ++ be 2 g1) (c := be 2 g2 ++ (be 2 t ++ bl x)) (n := 33024) (k := 2) 16 (by simp only [List.length_append, be_length]; rfl) (by decide) (by decide) (by decide) (by decide)
      simpa [fbytes, fpre, tagBytes] using this
    have n4 : numAt (str (fbytes d s [g1, g2] t x)) 18 2 = g2 := by
      have := num_mid (a := be 6 d ++ be 6 s ++ be 2 33024 ++ be 2 g1 ++ be 2 33024) (c := be 2 t ++ bl x) (n := g2) (k := 2) 18 (by simp only [List.length_append, be_length]; rfl) (by decide) (by decide) qg2.1 (by omega)
      simpa [fbytes, fpre, tagBytes] using this
    simp only [List.length_cons, List.length_nil] at hlen
    rw [n1, tgo_step (a := 12) (n := 1) (by omega) (by omega)] at hst
    rw [show (12 : Int) + 2 = 14 by decide, show (12 : Int) + 4 = 16 by decide, n2, n3, tgo_step (a := 16) (n := 0) (by omega) (by omega)] at hst
    rw [show (16 : Int) + 2 = 18 by decide, n4] at hst
    exact fin 20 (by simp) hst
  · simp at ql

theorem be_numAt (s : ByteArray) (p k : Nat) (hk : 1 ≤ k) (hk7 : k ≤ 7) (h : p + k ≤ s.size) : be k (numAt s (p : Int) (k : Int)) = ((bl s).drop p).take k := by
  rw [(okN_true (s := s) (at_ := (p : Int)) (k := (k : Int)) ⟨by omega, by omega, by omega, by omega⟩).2, Int.toNat_natCast, Int.toNat_natCast]
  exact be_num_of k _ (by rw [List.length_take, List.length_drop, bl_length]; omega)
theorem take_more (L : List UInt8) (p k : Nat) : L.take p ++ (L.drop p).take k = L.take (p + k) := (List.take_add).symm
theorem read_again {s : ByteArray} (h : rdOk s = true) : str (frameBytes (rdFr s).d (rdFr s).s (rdFr s).l (rdFr s).t (rdFr s).x) = s := by
  have h14 : 14 ≤ s.size := by
    rcases Nat.lt_or_ge s.size 14 with h' | h'
    · rw [rd_short h'] at h; cases h
    · exact h'
  have hst := (rd_start h14).2
  have b1 : be 6 (numAt s 0 6) = (bl s).take 6 := by have := be_numAt s 0 6 (by decide) (by decide) (by omega); simpa using this
  have b2 : be 6 (numAt s 6 6) = ((bl s).drop 6).take 6 := be_numAt s 6 6 (by decide) (by decide) (by omega)
  have fin : ∀ (tags : List Int) (a : Nat), 12 ≤ a → a + 2 ≤ s.size → tgo s (2 - tags.length) tags (numAt s (a : Int) 2) ((a : Int) + 2) false = rdR s → ¬ ((a : Int) + 6 ≤ s.size ∧ numAt s (a : Int) 2 = 33024 ∧ tags.length < 2) → fpre (numAt s 0 6) (numAt s 6 6) tags = (bl s).take a → str (frameBytes (rdFr s).d (rdFr s).s (rdFr s).l (rdFr s).t (rdFr s).x) = s := by
    intro tags a ha ha2 hR hx hp
    have hx := rd_exit (s := s) (tags := tags) (a := (a : Int)) (by omega) h14 hR hx
    rw [hx.2 h]
    have hf := hx.1.symm.trans h
    unfold frameBytes
    simp only
    rw [if_pos hf]
    unfold fbytes
    have b3 : be 2 (numAt s (a : Int) 2) = ((bl s).drop a).take 2 := be_numAt s a 2 (by decide) (by decide) (by omega)
    have b4 : bl (s.extract ((a : Int) + 2).toNat s.size) = (bl s).drop (a + 2) := by
      have e : s.extract ((a : Int) + 2).toNat s.size = str (((bl s).drop (a + 2)).take (s.size - (a + 2))) := by
        have := str_extract (bl s) (a + 2) s.size
        rw [str_bl] at this
        rw [show ((a : Int) + 2).toNat = a + 2 by omega]; exact this
      rw [e, bl_str, List.take_of_length_le (by rw [List.length_drop, bl_length]; exact Nat.le_refl _)]
    rw [hp, b3, b4, take_more, List.take_append_drop, str_bl]
  have p0 : fpre (numAt s 0 6) (numAt s 6 6) [] = (bl s).take 12 := by rw [fpre_nil, b1, b2]; exact take_more (bl s) 6 6
  have snoc : ∀ (tags : List Int) (a : Nat), a + 4 ≤ s.size → fpre (numAt s 0 6) (numAt s 6 6) tags = (bl s).take a → numAt s (a : Int) 2 = 33024 → fpre (numAt s 0 6) (numAt s 6 6) (tags ++ [numAt s ((a : Int) + 2) 2]) = (bl s).take (a + 4) := by
    intro tags a ha hp hn
    have c1 : be 2 33024 = ((bl s).drop a).take 2 := by rw [← hn]; exact be_numAt s a 2 (by decide) (by decide) (by omega)
    have c2 : be 2 (numAt s ((a : Int) + 2) 2) = ((bl s).drop (a + 2)).take 2 := be_numAt s (a + 2) 2 (by decide) (by decide) (by omega)
    have e : fpre (numAt s 0 6) (numAt s 6 6) (tags ++ [numAt s ((a : Int) + 2) 2]) = fpre (numAt s 0 6) (numAt s 6 6) tags ++ be 2 33024 ++ be 2 (numAt s ((a : Int) + 2) 2) := by
      unfold fpre tagBytes
      simp only [List.flatMap_append, List.flatMap_cons, List.flatMap_nil, List.append_nil, List.append_assoc]
    rw [e, hp, c1, c2, take_more, take_more]
  by_cases c1 : 18 ≤ s.size ∧ numAt s 12 2 = 33024
  · have s1 := hst
    rw [c1.2, tgo_step (a := 12) (n := 1) (by omega) (by omega)] at s1
    have p1 := snoc [] 12 (by omega) p0 c1.2
    by_cases c2 : 22 ≤ s.size ∧ numAt s 16 2 = 33024
    · have s2 := s1
      rw [show (12 : Int) + 4 = 16 by decide, c2.2, tgo_step (a := 16) (n := 0) (by omega) (by omega)] at s2
      have p2 := snoc ([] ++ [numAt s ((12 : Nat) + 2) 2]) 16 (by omega) p1 c2.2
      exact fin ([] ++ [numAt s ((12 : Nat) + 2) 2] ++ [numAt s ((16 : Nat) + 2) 2]) 20 (by omega) (by omega) (by simpa using s2) (by simp) p2
    · exact fin ([] ++ [numAt s ((12 : Nat) + 2) 2]) 16 (by omega) (by omega) (by simpa using s1) (fun hh => c2 ⟨by omega, hh.2.1⟩) p1
  · exact fin [] 12 (by omega) (by omega) hst (fun hh => c1 ⟨by omega, hh.2.1⟩) p0
end Go.Proofs.Ytlpapncgcgllfaa
