/-
  The law on Geneves: net, options, bytes come back; what is read, written again, is the same. Given the draw of options (TlvsC).
-/
import Derived.Test.YtnheppkjeoiipaaDgn1
import Derived.Test.YtnheppkjeoiipaaDgn2
import Derived.Test.YtnheppkjeoiipaaDgn3
import Derived.Test.YtnheppkjeoiipaaGnva
import Derived.Test.YtnheppkjeoiipaaGnvb
namespace Go.Proofs.Ytnheppkjeoiipaa
open Go.RowKit Go.PlainAid
theorem rgR_len (s : ByteArray) : (rgR s).length + opTot (rgR s) ≤ 1020 := by
  unfold rgR; split
  · by_cases h : rgE s ≤ s.size
    · exact rgO_len s h
    · rename_i hk
      unfold rgOk rgC at hk
      rw [if_neg h] at hk
      simp at hk
  · simp [opTot, totV]
theorem rgT_size (s : ByteArray) : (rgT s).size ≤ s.size := by
  unfold rgT rgD; split
  · simp only [ByteArray.size_extract]; omega
  · exact Nat.zero_le _
set_option maxRecDepth 100000 in
set_option maxHeartbeats 6400000 in
theorem walkT_FnGeneve (HTl : TlvsC) (a : Option Addr) (len cap : Nat) (zs : List Int) (w : World) (w0 : IsRow .u8 w a len cap zs) :
    Calls Try.prog 3 #[.slice a len cap] w fun e w' => e = .returned (.bool true) ∧ Below w.heap.size w w' := by
  have hl := row_len w0
  by_cases hz : 1048576 < len
  · go_enter Try.func3, Try.ntmps3
    go_wp2
    go_ret
    exact ⟨rfl, Below.refl _ _⟩
  · have hCo := code_of_row w0 (by omega)
    clear w0
    go_enter Try.func3, Try.ntmps3
    go_wp2_with fail
    refine (big_no _ _ _ _ (by omega)).mono ?_
    rintro e w' ⟨rfl, rfl⟩
    go_wp2_with fail
    refine (d_GeneveBytes HTl _ a len cap _ hCo).mono ?_
    rintro e w1 ⟨x, vL, l, d, rfl, hL, hll, hlt, hd, hb⟩
    obtain ⟨TL, cL, rfl⟩ := hL.form
    go_wp2_with fail
    go_at_call 9
    refine (i_GeneveBytes x TL cL l d _ hL.reads.2 (by omega) (by omega)).mono ?_
    rintro e w2 ⟨rfl, hbq⟩
    replace hL := hL.far hbq
    replace hb := hb.trans (hbq.mono hb.size)
    clear hbq
    have hC2 := hCo.below hb
    go_wp2_with fail
    refine (d_ReadGeneve HTl _ a len cap _ hC2).mono ?_
    rintro e w3 ⟨t, rfl, ht, hbq⟩
    replace hL := hL.far hbq
    replace hb := hb.trans (hbq.mono hb.size)
    clear hbq hC2
    have hvl := gvText_le x l d
    have hvs : (str (gvText x l d)).size ≤ 65400 := by rw [str_size]; omega
    have CSB : Hid (∀ u : World, CellsAt u TL (opF l) → Calls Try.prog 13 #[.int .i64 x, .slice TL l.length cL, .string d] u fun e w' => e = .returned (.string (str (gvText x l d))) ∧ Below u.heap.size u w') := fun u hu => s_GeneveBytes x TL cL l d u hu (by omega) (by omega)
    have CRs : Hid (∀ u : World, Calls Try.prog 11 #[.string (str (gvText x l d))] u fun e w' => ∃ v, e = .returned (.tuple #[.int .i64 (rgN (str (gvText x l d))), v, .string (rgT (str (gvText x l d))), .int .i64 (rgC (str (gvText x l d)))]) ∧ ownV w' u.heap.size 33 3 v (rgR (str (gvText x l d))).length (opF (rgR (str (gvText x l d)))) ∧ Below u.heap.size u w') := fun u => i_ReadGeneve _ u (by omega)
    have CRt : Hid (∀ u : World, Calls Try.prog 11 #[.string t] u fun e w' => ∃ v, e = .returned (.tuple #[.int .i64 (rgN t), v, .string (rgT t), .int .i64 (rgC t)]) ∧ ownV w' u.heap.size 33 3 v (rgR t).length (opF (rgR t)) ∧ Below u.heap.size u w') := fun u => i_ReadGeneve t u (by omega)
    have CSt : Hid (∀ u : World, Calls Try.prog 12 #[.string t] u fun e w' => ∃ v, e = .returned (.tuple #[.int .i64 (rgN t), v, .string (rgT t), .int .i64 (rgC t)]) ∧ ownV w' u.heap.size 33 3 v (rgR t).length (opF (rgR t)) ∧ Below u.heap.size u w') := fun u => s_ReadGeneve t u (by omega)
    have hrt := rgR_len t
    have hts := rgT_size t
    have CSA : Hid (∀ (S1 S2 : Option Addr) (c1 c2 : Nat) (u : World), CellsAt u S1 (opF (rgR t)) → CellsAt u S2 (opF (rgR t)) → Calls Try.prog 14 #[.slice S1 (rgR t).length c1, .slice S2 (rgR t).length c2] u fun e w' => e = .returned (.bool true) ∧ Below u.heap.size u w') := fun S1 S2 c1 c2 u h1 h2 => l_sameOpts S1 S2 c1 c2 _ u h1 h2 (by omega)
    have CSL : Hid (∀ (S1 S2 : Option Addr) (c1 c2 : Nat) (u : World), CellsAt u S1 (opF l) → CellsAt u S2 (opF l) → Calls Try.prog 14 #[.slice S1 l.length c1, .slice S2 l.length c2] u fun e w' => e = .returned (.bool true) ∧ Below u.heap.size u w') := fun S1 S2 c1 c2 u h1 h2 => l_sameOpts S1 S2 c1 c2 _ u h1 h2 (by omega)
    have HG : Hid (rgC t = 0 → str (gvText (rgN t) (rgR t) (rgT t)) = t) := fun h => gv_again (.inl h)
    have HY : Hid ((netB x && opsB l && carB d) = true → rgC (str (gvText x l d)) = (if opsUn l then 3 else 0) ∧ rgN (str (gvText x l d)) = x ∧ rgR (str (gvText x l d)) = l ∧ rgT (str (gvText x l d)) = d ∧ ¬ str (gvText x l d) = ⟨#[]⟩) := fun h => gv_back h
    have HN : Hid ((netB x && opsB l && carB d) = false → str (gvText x l d) = ⟨#[]⟩) := fun h => by show str (gvText x l d) = _; unfold gvText; rw [h]; rfl
    clear hvl hvs
    generalize str (gvText x l d) = s at *
    go_wp2_with fail
    go_at_call 11
    refine (CRt.out _).mono ?_
    rintro e w4 ⟨vA, rfl, hA, hbq⟩
    obtain ⟨TA, cA, rfl⟩ := hA.form
    replace hL := hL.far hbq
    replace hb := hb.trans (hbq.mono hb.size)
    clear hbq
    go_wp2_with fail
    go_at_call 12
    refine (CSt.out _).mono ?_
    rintro e w5 ⟨vC, rfl, hC, hbq⟩
    obtain ⟨TC, cC, rfl⟩ := hC.form
    replace hL := hL.far hbq
    replace hA := hA.far hbq
    replace hb := hb.trans (hbq.mono hb.size)
    clear hbq
    clear CRt CSt
    have e1 : (rgC t != rgC t) = false := by simp
    have e0 : (rgN t != rgN t) = false := by simp
    by_cases hg : rgC t = 0
    · have g1 := HG.out hg
      have CAg : Hid (∀ (S1 : Option Addr) (c1 : Nat) (u : World), CellsAt u S1 (opF (rgR t)) → Calls Try.prog 9 #[.int .i64 (rgN t), .slice S1 (rgR t).length c1, .string (rgT t)] u fun e w' => e = .returned (.string t) ∧ Below u.heap.size u w') := fun S1 c1 u hu => by
        have := i_GeneveBytes (rgN t) S1 c1 (rgR t) (rgT t) u hu (by omega) (by omega)
        rw [g1] at this; exact this
      rw [hg]
      clear HG g1 hg e1 hts hrt
      generalize rgR t = tr at *
      generalize rgT t = td at *
      generalize rgN t = tn at *
      cases hT : (netB x && opsB l && carB d)
      · have y2 := HN.out hT
        have e2 : s.toList.isEmpty = true := by rw [y2]; simp
        clear HY HN hT y2
        go_wp2_with (first | (go_at_call 13; refine (CSB.out _ hL.reads.2).mono ?_; rintro e w6 ⟨rfl, hbq⟩; replace hL := hL.far hbq; replace hA := hA.far hbq; replace hC := hC.far hbq; replace hb := hb.trans (hbq.mono hb.size); clear hbq) | (go_at_call 14; refine (CSA.out _ _ _ _ _ hA.reads.2 hC.reads.2).mono ?_; rintro e w7 ⟨rfl, hbq⟩; replace hL := hL.far hbq; replace hA := hA.far hbq; replace hC := hC.far hbq; replace hb := hb.trans (hbq.mono hb.size); clear hbq) | (go_at_call 9; refine (CAg.out _ _ _ hA.reads.2).mono ?_; rintro e w8 ⟨rfl, hbq⟩; replace hL := hL.far hbq; replace hA := hA.far hbq; replace hC := hC.far hbq; replace hb := hb.trans (hbq.mono hb.size); clear hbq))
        go_ret
        exact ⟨by first | rfl | exact ret_bool (by simp [e2]), hb⟩
      · obtain ⟨y1, y2, y3, y4, y5⟩ := HY.out hT
        rw [y1, y2, y3, y4] at CRs
        have e2 : s.toList.isEmpty = false := by rw [List.isEmpty_eq_false_iff]; exact fun hh => by have := str_ne y5; rw [hh] at this; simp at this
        clear HY HN hT y1 y2 y3 y4 y5
        cases hun : opsUn l
        all_goals rw [hun] at CRs; clear hun
        · simp only [Bool.false_eq_true, if_false] at CRs
          go_wp2_with (first | (go_at_call 13; refine (CSB.out _ hL.reads.2).mono ?_; rintro e w6 ⟨rfl, hbq⟩; replace hL := hL.far hbq; replace hA := hA.far hbq; replace hC := hC.far hbq; replace hb := hb.trans (hbq.mono hb.size); clear hbq) | (go_at_call 14; refine (CSA.out _ _ _ _ _ hA.reads.2 hC.reads.2).mono ?_; rintro e w7 ⟨rfl, hbq⟩; replace hL := hL.far hbq; replace hA := hA.far hbq; replace hC := hC.far hbq; replace hb := hb.trans (hbq.mono hb.size); clear hbq) | (go_at_call 9; refine (CAg.out _ _ _ hA.reads.2).mono ?_; rintro e w8 ⟨rfl, hbq⟩; replace hL := hL.far hbq; replace hA := hA.far hbq; replace hC := hC.far hbq; replace hb := hb.trans (hbq.mono hb.size); clear hbq))
          go_at_call 11
          refine (CRs.out _).mono ?_
          rintro e w9 ⟨vX, rfl, hX, hbq⟩
          replace hL := hL.far hbq
          replace hb := hb.trans (hbq.mono hb.size)
          clear hbq
          obtain ⟨TX, cX, rfl⟩ := hX.form
          go_wp2_with fail
          go_at_call 14
          refine (CSL.out _ _ _ _ _ hX.reads.2 hL.reads.2).mono ?_
          rintro e w10 ⟨rfl, hbq⟩
          replace hb := hb.trans (hbq.mono hb.size)
          go_wp2
          go_ret
          exact ⟨by first | rfl | exact ret_bool (by simp [e2]), hb⟩
        · simp only [if_true] at CRs
          go_wp2_with (first | (go_at_call 13; refine (CSB.out _ hL.reads.2).mono ?_; rintro e w6 ⟨rfl, hbq⟩; replace hL := hL.far hbq; replace hA := hA.far hbq; replace hC := hC.far hbq; replace hb := hb.trans (hbq.mono hb.size); clear hbq) | (go_at_call 14; refine (CSA.out _ _ _ _ _ hA.reads.2 hC.reads.2).mono ?_; rintro e w7 ⟨rfl, hbq⟩; replace hL := hL.far hbq; replace hA := hA.far hbq; replace hC := hC.far hbq; replace hb := hb.trans (hbq.mono hb.size); clear hbq) | (go_at_call 9; refine (CAg.out _ _ _ hA.reads.2).mono ?_; rintro e w8 ⟨rfl, hbq⟩; replace hL := hL.far hbq; replace hA := hA.far hbq; replace hC := hC.far hbq; replace hb := hb.trans (hbq.mono hb.size); clear hbq))
          go_at_call 11
          refine (CRs.out _).mono ?_
          rintro e w9 ⟨vX, rfl, hX, hbq⟩
          replace hL := hL.far hbq
          replace hb := hb.trans (hbq.mono hb.size)
          clear hbq
          obtain ⟨TX, cX, rfl⟩ := hX.form
          go_wp2_with fail
          go_at_call 14
          refine (CSL.out _ _ _ _ _ hX.reads.2 hL.reads.2).mono ?_
          rintro e w10 ⟨rfl, hbq⟩
          replace hb := hb.trans (hbq.mono hb.size)
          go_wp2
          go_ret
          exact ⟨by first | rfl | exact ret_bool (by simp [e2]), hb⟩
    · have hgb : (rgC t == 0) = false := by simp [hg]
      clear HG hg hts hrt
      generalize rgR t = tr at *
      generalize rgT t = td at *
      generalize rgC t = tc at *
      generalize rgN t = tn at *
      cases hT : (netB x && opsB l && carB d)
      · have y2 := HN.out hT
        have e2 : s.toList.isEmpty = true := by rw [y2]; simp
        clear HY HN hT y2
        go_wp2_with (first | (go_at_call 13; refine (CSB.out _ hL.reads.2).mono ?_; rintro e w6 ⟨rfl, hbq⟩; replace hL := hL.far hbq; replace hA := hA.far hbq; replace hC := hC.far hbq; replace hb := hb.trans (hbq.mono hb.size); clear hbq) | (go_at_call 14; refine (CSA.out _ _ _ _ _ hA.reads.2 hC.reads.2).mono ?_; rintro e w7 ⟨rfl, hbq⟩; replace hL := hL.far hbq; replace hA := hA.far hbq; replace hC := hC.far hbq; replace hb := hb.trans (hbq.mono hb.size); clear hbq))
        go_ret
        exact ⟨by first | rfl | exact ret_bool (by simp [e2]), hb⟩
      · obtain ⟨y1, y2, y3, y4, y5⟩ := HY.out hT
        rw [y1, y2, y3, y4] at CRs
        have e2 : s.toList.isEmpty = false := by rw [List.isEmpty_eq_false_iff]; exact fun hh => by have := str_ne y5; rw [hh] at this; simp at this
        clear HY HN hT y1 y2 y3 y4 y5
        cases hun : opsUn l
        all_goals rw [hun] at CRs; clear hun
        · simp only [Bool.false_eq_true, if_false] at CRs
          go_wp2_with (first | (go_at_call 13; refine (CSB.out _ hL.reads.2).mono ?_; rintro e w6 ⟨rfl, hbq⟩; replace hL := hL.far hbq; replace hA := hA.far hbq; replace hC := hC.far hbq; replace hb := hb.trans (hbq.mono hb.size); clear hbq) | (go_at_call 14; refine (CSA.out _ _ _ _ _ hA.reads.2 hC.reads.2).mono ?_; rintro e w7 ⟨rfl, hbq⟩; replace hL := hL.far hbq; replace hA := hA.far hbq; replace hC := hC.far hbq; replace hb := hb.trans (hbq.mono hb.size); clear hbq))
          go_at_call 11
          refine (CRs.out _).mono ?_
          rintro e w9 ⟨vX, rfl, hX, hbq⟩
          replace hL := hL.far hbq
          replace hb := hb.trans (hbq.mono hb.size)
          clear hbq
          obtain ⟨TX, cX, rfl⟩ := hX.form
          go_wp2_with fail
          go_at_call 14
          refine (CSL.out _ _ _ _ _ hX.reads.2 hL.reads.2).mono ?_
          rintro e w10 ⟨rfl, hbq⟩
          replace hb := hb.trans (hbq.mono hb.size)
          go_wp2
          go_ret
          exact ⟨by first | rfl | exact ret_bool (by simp [e2]), hb⟩
        · simp only [if_true] at CRs
          go_wp2_with (first | (go_at_call 13; refine (CSB.out _ hL.reads.2).mono ?_; rintro e w6 ⟨rfl, hbq⟩; replace hL := hL.far hbq; replace hA := hA.far hbq; replace hC := hC.far hbq; replace hb := hb.trans (hbq.mono hb.size); clear hbq) | (go_at_call 14; refine (CSA.out _ _ _ _ _ hA.reads.2 hC.reads.2).mono ?_; rintro e w7 ⟨rfl, hbq⟩; replace hL := hL.far hbq; replace hA := hA.far hbq; replace hC := hC.far hbq; replace hb := hb.trans (hbq.mono hb.size); clear hbq))
          go_at_call 11
          refine (CRs.out _).mono ?_
          rintro e w9 ⟨vX, rfl, hX, hbq⟩
          replace hL := hL.far hbq
          replace hb := hb.trans (hbq.mono hb.size)
          clear hbq
          obtain ⟨TX, cX, rfl⟩ := hX.form
          go_wp2_with fail
          go_at_call 14
          refine (CSL.out _ _ _ _ _ hX.reads.2 hL.reads.2).mono ?_
          rintro e w10 ⟨rfl, hbq⟩
          replace hb := hb.trans (hbq.mono hb.size)
          go_wp2
          go_ret
          exact ⟨by first | rfl | exact ret_bool (by simp [e2]), hb⟩
end Go.Proofs.Ytnheppkjeoiipaa
