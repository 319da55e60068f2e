/-
  A GRE comes back from its bytes; with a sum, and a byte changed behind the first four, there is none: plain facts.
-/
import Derived.Test.YtgbpecjgpiffmaaGre4
namespace Go.Proofs.Ytgbpecjgpiffmaa
open Go.RowKit Go.PlainAid
theorem numAt_mid {A R : List UInt8} {n : Int} {k : Nat} (p : Int) (hp : p = (A.length : Int)) (hk : 1 ≤ k) (hk2 : k ≤ 7) (h0 : 0 ≤ n) (h1 : n < 256 ^ k) (L : List UInt8) (hL : L = A ++ (be k n ++ R)) : numAt (str L) p (k : Int) = n := by
  subst hL hp
  rw [(okN_true (s := str (A ++ (be k n ++ R))) (at_ := A.length) (k := (k : Int)) ⟨by omega, by omega, by omega, by rw [str_size]; simp only [List.length_append, be_length]; omega⟩).2, bl_str]
  simp only [Int.toNat_natCast]
  rw [List.drop_append_of_le_length (Nat.le_refl _), List.drop_length, List.nil_append, List.take_append_of_le_length (by rw [be_length]; exact Nat.le_refl _), List.take_of_length_le (by rw [be_length]; exact Nat.le_refl _)]
  exact num_be k n h0 h1
theorem numAt4_mid (A R : List UInt8) {n : Int} (p : Int) (hp : p = (A.length : Int)) (h0 : 0 ≤ n) (h1 : n < 256 ^ 4) (L : List UInt8) (hL : L = A ++ (be 4 n ++ R)) : numAt (str L) p 4 = n := numAt_mid (k := 4) p hp (by decide) (by decide) h0 h1 L hL
theorem numAt2_mid (A R : List UInt8) {n : Int} (p : Int) (hp : p = (A.length : Int)) (h0 : 0 ≤ n) (h1 : n < 256 ^ 2) (L : List UInt8) (hL : L = A ++ (be 2 n ++ R)) : numAt (str L) p 2 = n := numAt_mid (k := 2) p hp (by decide) (by decide) h0 h1 L hL
structure GrFacts (g : GrV) : Prop where
  k0 : 0 ≤ g.key
  k1 : g.key ≤ 4294967295
  s0 : 0 ≤ g.seq
  s1 : g.seq ≤ 4294967295
  kz : g.hasKey = false → g.key = 0
  sz : g.hasSeq = false → g.seq = 0
theorem grOk_facts {g : GrV} (h : grOk g = true) : GrFacts g := by
  unfold grOk grN inB at h
  rw [Bool.and_eq_true] at h
  obtain ⟨h1, h2⟩ := h
  cases hk : g.hasKey <;> cases hs : g.hasSeq <;> simp [hk, hs] at h1 h2 <;> exact ⟨by omega, by omega, by omega, by omega, by simp [hk]; try omega, by simp [hs]; try omega⟩
theorem grBig (g : GrV) (x : Int) (h : (grOk g && carB g.data) = true) : grText g x = grHd g x ++ bl g.data := by unfold grText; rw [h]; rfl
theorem gr_parts2 (g : GrV) (x : Int) (hx0 : 0 ≤ x) (hx1 : x ≤ 65535) (h : (grOk g && carB g.data) = true) (hz : g.sum = false → x = 0) : grd (str (grText g x)) = g ∧ gsv (str (grText g x)) = x ∧ gpD (str (grText g x)) ≤ (str (grText g x)).size := by
  have hF := grOk_facts (by rw [Bool.and_eq_true] at h; exact h.1)
  have hb := grFl_bd g
  have eT := grBig g x h
  rw [eT]
  have ek : bytesOf g.key 4 = be 4 g.key := okB_of (by decide) (by decide) hF.k0 (by have := hF.k1; simp only [Int.reduceToNat, Int.reducePow]; omega)
  have es : bytesOf g.seq 4 = be 4 g.seq := okB_of (by decide) (by decide) hF.s0 (by have := hF.s1; simp only [Int.reduceToNat, Int.reducePow]; omega)
  have k1 : g.key < 256 ^ 4 := by have := hF.k1; simp only [Int.reducePow]; omega
  have s1 : g.seq < 256 ^ 4 := by have := hF.s1; simp only [Int.reducePow]; omega
  have x1 : x < 256 ^ 2 := by simp only [Int.reducePow]; omega
  have hfl : numAt (str (grHd g x ++ bl g.data)) 0 1 = grFl g := by
    refine numAt_mid (A := []) (R := be 1 0 ++ be 2 25944 ++ (if g.sum then be 2 x ++ be 2 0 else []) ++ (if g.hasKey then bytesOf g.key 4 else []) ++ (if g.hasSeq then bytesOf g.seq 4 else []) ++ bl g.data) (k := 1) 0 rfl (by decide) (by decide) hb.1 (by simp only [Int.reducePow]; omega) _ ?_
    unfold grHd; simp only [List.append_assoc, List.nil_append]
  have ea : gra (str (grHd g x ++ bl g.data)) = g.sum := by
    unfold gra gmk; rw [hfl]; unfold grFl; cases g.sum <;> cases g.hasKey <;> cases g.hasSeq <;> decide
  have eb : grb (str (grHd g x ++ bl g.data)) = g.hasKey := by
    unfold grb gmk; rw [hfl]; unfold grFl; cases g.sum <;> cases g.hasKey <;> cases g.hasSeq <;> decide
  have ec : grc (str (grHd g x ++ bl g.data)) = g.hasSeq := by
    unfold grc gmk; rw [hfl]; unfold grFl; cases g.sum <;> cases g.hasKey <;> cases g.hasSeq <;> decide
  clear hfl
  have hext : ∀ (A : List UInt8) (p : Int) (L : List UInt8), L = A ++ bl g.data → p = (A.length : Int) → (str L).extract p.toNat (str L).size = g.data := fun A p L hL hp => by
    subst hL hp
    rw [str_extract, str_size, Int.toNat_natCast, List.drop_append_of_le_length (Nat.le_refl _), List.drop_length, List.nil_append, List.take_of_length_le (by simp), str_bl]
  have hle : ∀ (A : List UInt8) (p : Int) (L : List UInt8), L = A ++ bl g.data → p = (A.length : Int) → p ≤ (str L).size := fun A p L hL hp => by
    subst hL hp; rw [str_size, List.length_append]; omega
  have hH := grH_len g
  have eH : ∀ R, grHd g x ++ R = grH g ++ ((if g.sum then be 2 x ++ be 2 0 else []) ++ ((if g.hasKey then be 4 g.key else []) ++ ((if g.hasSeq then be 4 g.seq else []) ++ R))) := fun R => by
    unfold grHd grH; rw [ek, es]; simp only [List.append_assoc]
  unfold grd gsv gpD gpS gpK
  rw [ea, eb, ec]
  have hkz := hF.kz
  have hsz := hF.sz
  have k0 := hF.k0
  have s0 := hF.s0
  obtain ⟨a, b, ky, c, sq, da⟩ := g
  simp only at *
  rw [eH]
  generalize grH _ = H at *
  cases a <;> cases b <;> cases c <;> simp only [Bool.false_eq_true, if_false, if_true, List.nil_append, List.append_assoc, forall_const, false_implies, reduceCtorEq] at *
  · exact ⟨by rw [hext H 4 _ rfl (by omega), hkz, hsz], hz.symm, hle H 4 _ rfl (by omega)⟩
  · refine ⟨?_, hz.symm, hle (H ++ be 4 sq) (4 + 4) _ (by simp) (by simp [be_length]; omega)⟩
    rw [hext (H ++ be 4 sq) (4 + 4) _ (by simp) (by simp [be_length]; omega), hkz, numAt4_mid H (bl da) 4 (by omega) s0 s1 (H ++ (be 4 sq ++ bl da)) rfl]
  · refine ⟨?_, hz.symm, hle (H ++ be 4 ky) (4 + 4) _ (by simp) (by simp [be_length]; omega)⟩
    rw [hext (H ++ be 4 ky) (4 + 4) _ (by simp) (by simp [be_length]; omega), hsz, numAt4_mid H (bl da) 4 (by omega) k0 k1 (H ++ (be 4 ky ++ bl da)) rfl]
  · refine ⟨?_, hz.symm, hle (H ++ (be 4 ky ++ be 4 sq)) (4 + 4 + 4) _ (by simp) (by simp [be_length]; omega)⟩
    rw [hext (H ++ (be 4 ky ++ be 4 sq)) (4 + 4 + 4) _ (by simp) (by simp [be_length]; omega), numAt4_mid H (be 4 sq ++ bl da) 4 (by omega) k0 k1 (H ++ (be 4 ky ++ (be 4 sq ++ bl da))) rfl, numAt4_mid (H ++ be 4 ky) (bl da) (4 + 4) (by simp [be_length]; omega) s0 s1 (H ++ (be 4 ky ++ (be 4 sq ++ bl da))) (by simp)]
  · refine ⟨?_, numAt2_mid H (be 2 0 ++ bl da) 4 (by omega) hx0 x1 _ rfl, hle (H ++ (be 2 x ++ be 2 0)) 8 _ (by simp) (by simp [be_length]; omega)⟩
    rw [hext (H ++ (be 2 x ++ be 2 0)) 8 _ (by simp) (by simp [be_length]; omega), hkz, hsz]
  · refine ⟨?_, numAt2_mid H (be 2 0 ++ (be 4 sq ++ bl da)) 4 (by omega) hx0 x1 _ rfl, hle (H ++ (be 2 x ++ (be 2 0 ++ be 4 sq))) (8 + 4) _ (by simp) (by simp [be_length]; omega)⟩
    rw [hext (H ++ (be 2 x ++ (be 2 0 ++ be 4 sq))) (8 + 4) _ (by simp) (by simp [be_length]; omega), hkz, numAt4_mid (H ++ (be 2 x ++ be 2 0)) (bl da) 8 (by simp [be_length]; omega) s0 s1 (H ++ (be 2 x ++ (be 2 0 ++ (be 4 sq ++ bl da)))) (by simp)]
  · refine ⟨?_, numAt2_mid H (be 2 0 ++ (be 4 ky ++ bl da)) 4 (by omega) hx0 x1 _ rfl, hle (H ++ (be 2 x ++ (be 2 0 ++ be 4 ky))) (8 + 4) _ (by simp) (by simp [be_length]; omega)⟩
    rw [hext (H ++ (be 2 x ++ (be 2 0 ++ be 4 ky))) (8 + 4) _ (by simp) (by simp [be_length]; omega), hsz, numAt4_mid (H ++ (be 2 x ++ be 2 0)) (bl da) 8 (by simp [be_length]; omega) k0 k1 (H ++ (be 2 x ++ (be 2 0 ++ (be 4 ky ++ bl da)))) (by simp)]
  · refine ⟨?_, numAt2_mid H (be 2 0 ++ (be 4 ky ++ (be 4 sq ++ bl da))) 4 (by omega) hx0 x1 _ rfl, hle (H ++ (be 2 x ++ (be 2 0 ++ (be 4 ky ++ be 4 sq)))) (8 + 4 + 4) _ (by simp) (by simp [be_length]; omega)⟩
    rw [hext (H ++ (be 2 x ++ (be 2 0 ++ (be 4 ky ++ be 4 sq)))) (8 + 4 + 4) _ (by simp) (by simp [be_length]; omega), numAt4_mid (H ++ (be 2 x ++ be 2 0)) (be 4 sq ++ bl da) 8 (by simp [be_length]; omega) k0 k1 (H ++ (be 2 x ++ (be 2 0 ++ (be 4 ky ++ (be 4 sq ++ bl da))))) (by simp), numAt4_mid (H ++ (be 2 x ++ (be 2 0 ++ be 4 ky))) (bl da) (8 + 4) (by simp [be_length]; omega) s0 s1 (H ++ (be 2 x ++ (be 2 0 ++ (be 4 ky ++ (be 4 sq ++ bl da))))) (by simp)]
theorem grSum_z {g : GrV} (h : g.sum = false) : grSum g = 0 := by unfold grSum; rw [h]; rfl
theorem gr_back {g : GrV} (h : (grOk g && carB g.data) = true) : grC (str (grText g (grSum g))) = 0 ∧ grR (str (grText g (grSum g))) = g ∧ ¬ str (grText g (grSum g)) = ⟨#[]⟩ := by
  have hb := grSum_bd g
  obtain ⟨h1, h2, h3⟩ := gr_parts2 g (grSum g) hb.1 hb.2 h grSum_z
  have hc : grC (str (grText g (grSum g))) = 0 := by
    unfold grC; rw [if_pos h3, h1, h2, if_pos rfl, if_pos rfl]
  refine ⟨hc, ?_, fun hh => ?_⟩
  · unfold grR; rw [if_pos hc, h1]
  · rw [hh] at h3
    have := gp_bd (⟨#[]⟩ : ByteArray)
    have e0 : (⟨#[]⟩ : ByteArray).size = 0 := rfl
    rw [e0] at h3; omega
theorem gr_none {g : GrV} (x : Int) (h : (grOk g && carB g.data) = false) : str (grText g x) = ⟨#[]⟩ := by
  unfold grText; rw [h]; rfl
theorem gr_again {t : ByteArray} (h : grC t = 0) : str (grText (grR t) (grSum (grR t))) = t ∧ (grR t).data.size ≤ t.size ∧ (grR t).key ≤ 9223372036854775807 ∧ (grR t).seq ≤ 9223372036854775807 := by
  have hr : grR t = grd t := by unfold grR; rw [if_pos h]
  rw [hr]
  refine ⟨?_, grd_data t, (grd_key t).1, (grd_key t).2⟩
  unfold grC at h
  split at h
  · rename_i h1
    split at h
    · rename_i h2
      split at h
      · rename_i h3
        rw [← h3]; exact h2
      · omega
    · omega
  · omega
/-- a right one with a sum has the sum 0 -/
theorem gr_zero {t : ByteArray} (h : grC t = 0) (ha : gra t = true) : fold16 (psum (bl t)) = 65535 := by
  have h1 := (gr_again h).1
  have hr : grR t = grd t := by unfold grR; rw [if_pos h]
  rw [hr] at h1
  have hc : (grOk (grd t) && carB (grd t).data) = true := by
    cases hq : (grOk (grd t) && carB (grd t).data)
    · rw [gr_none _ hq] at h1
      rw [← h1] at ha
      revert ha; decide
    · rfl
  rw [grBig _ _ hc] at h1
  have h2 : bl t = grHd (grd t) (grSum (grd t)) ++ bl (grd t).data := (congrArg bl h1).symm
  have hs : (grd t).sum = true := ha
  have hb := grSum_bd (grd t)
  have hsum : grSum (grd t) = sumOf (grHd (grd t) 0 ++ bl (grd t).data) := by unfold grSum; rw [hs]; rfl
  rw [h2]
  generalize grd t = g at *
  have e : ∀ x : Int, 0 ≤ x → x ≤ 65535 → psum (grHd g x ++ bl g.data) = psum (grH g) + (x + psum (grT2 g)) := fun x x0 x1 => by
    rw [grAll, hs]
    simp only [if_true]
    rw [psum_append _ _ (by rw [grH_len]), List.append_assoc, psum_append (be 2 x) _ (by rw [be_length]), psum_append (be 2 0) _ (by rw [be_length]), psum_be2 x0 x1, psum_be2 (by decide) (by decide)]
    omega
  rw [e _ hb.1 hb.2]
  have e0 := e 0 (by decide) (by decide)
  have hn := psum_nonneg (grHd g 0 ++ bl g.data)
  have hz := fold16_zero hn
  rw [hsum]
  unfold sumOf
  rw [e0] at hz ⊢
  rw [show psum (grH g) + (65535 - fold16 (psum (grH g) + (0 + psum (grT2 g))) + psum (grT2 g)) = psum (grH g) + (0 + psum (grT2 g)) + (65535 - fold16 (psum (grH g) + (0 + psum (grT2 g)))) by omega]
  exact hz
theorem psum_setg : ∀ (l : List UInt8) (i : Nat) (c : UInt8) (h : i < l.length), psum (l.set i c) = psum l + ((c.toNat : Int) - (l[i].toNat : Int)) * (if i % 2 = 0 then 256 else 1)
  | [], i, c, h => by simp at h
  | [x], i, c, h => by
    have : i = 0 := by simp at h; omega
    subst this
    simp [psum]; omega
  | x :: y :: l, 0, c, h => by simp [psum]; omega
  | x :: y :: l, 1, c, h => by simp [psum]; omega
  | x :: y :: l, i + 2, c, h => by
    have h' : i < l.length := by simp at h; omega
    have := psum_setg l i c h'
    simp only [List.set_cons_succ, psum, List.getElem_cons_succ, this]
    have e : (i + 2) % 2 = i % 2 := by omega
    rw [e]; omega
theorem gr_turned {g : GrV} (h : (grOk g && carB g.data) = true) (hs : g.sum = true) (i : Nat) (hi : i < (grText g (grSum g)).length) (h4 : 4 ≤ i) (c : UInt8) (hc : (grText g (grSum g))[i]? ≠ some c) : ¬ grC (str ((grText g (grSum g)).set i c)) = 0 := by
  intro h0
  have hb := grSum_bd g
  obtain ⟨h1, h2, h3⟩ := gr_parts2 g (grSum g) hb.1 hb.2 h grSum_z
  obtain ⟨q1, q2, q3⟩ := gr_back h
  have hg : gra (str (grText g (grSum g))) = true := by
    have : (grd (str (grText g (grSum g)))).sum = gra (str (grText g (grSum g))) := rfl
    rw [← this, h1, hs]
  have z1 := gr_zero q1 hg
  rw [bl_str] at z1
  generalize grText g (grSum g) = T at *
  have hg2 : gra (str (T.set i c)) = true := by
    unfold gra gmk at hg ⊢
    have e : numAt (str (T.set i c)) 0 1 = numAt (str T) 0 1 := by
      rw [(okN_true (s := str (T.set i c)) (at_ := 0) (k := 1) ⟨by omega, by omega, by omega, by rw [str_size, List.length_set]; omega⟩).2, (okN_true (s := str T) (at_ := 0) (k := 1) ⟨by omega, by omega, by omega, by rw [str_size]; omega⟩).2]
      rw [bl_str, bl_str]
      simp only [Int.reduceToNat, List.drop_zero]
      rw [List.take_set_of_le (by omega)]
    rw [e]; exact hg
  have z2 := gr_zero h0 hg2
  rw [bl_str, psum_setg T i c hi] at z2
  have hne : c.toNat ≠ (T[i]).toNat := fun e => hc (by rw [List.getElem?_eq_getElem hi, UInt8.toNat.inj e])
  have c1 := c.toNat_lt
  have c2 := (T[i]).toNat_lt
  have hn := psum_nonneg T
  unfold fold16 at z1 z2
  by_cases he : i % 2 = 0
  · rw [if_pos he] at z2
    split at z1 <;> split at z2 <;> omega
  · rw [if_neg he] at z2
    split at z1 <;> split at z2 <;> omega
end Go.Proofs.Ytgbpecjgpiffmaa
