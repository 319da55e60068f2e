/-
  The law on MPLS: labels and bytes come back; what is read, written again, is the same.
-/
import Derived.Test.YtlnhiaapjphefaaDmp
namespace Go.Proofs.Ytlnhiaapjphefaa
open Go.RowKit Go.PlainAid
set_option maxRecDepth 100000 in
set_option maxHeartbeats 6400000 in
theorem walk_FnMpls (a : Option Addr) (len cap : Nat) (zs : List Int) (w : World) (w0 : IsRow .u8 w a len cap zs) :
    Calls Try.prog 8 #[.slice a len cap] w fun e w' => e = .returned (.bool true) ∧ Below w.heap.size w w' := by
  have hl := row_len w0
  by_cases hz : 1048576 < len
  · go_enter Try.func8, Try.ntmps8
    go_wp2
    go_ret
    exact ⟨rfl, Below.refl _ _⟩
  · have hCo := code_of_row w0 (by omega)
    clear w0
    go_enter Try.func8, Try.ntmps8
    go_wp2_with fail
    refine (big_no _ _ _ _ (by omega)).mono ?_
    rintro e w' ⟨rfl, rfl⟩
    go_wp2_with fail
    refine (d_MplsBytes _ a len cap _ hCo).mono ?_
    rintro e w1 ⟨vL, l, d, rfl, hL, hll, hd, hb⟩
    obtain ⟨TL, cL, rfl⟩ := hL.form
    go_wp2_with fail
    go_at_call 33
    refine (i_MplsBytes TL cL l d _ hL.reads.2 (by omega) (by omega)).mono ?_
    rintro e w2 ⟨rfl, hbq⟩
    replace hL := hL.far hbq
    replace hb := hb.trans (hbq.mono hb.size)
    clear hbq
    have hC2 := hCo.below hb
    go_wp2_with fail
    refine (d_ReadMpls _ a len cap _ hC2).mono ?_
    rintro e w3 ⟨t, rfl, ht, hbq⟩
    replace hL := hL.far hbq
    replace hb := hb.trans (hbq.mono hb.size)
    clear hbq hC2
    have hvl := mpText_len l d hll
    have hvs : (str (mpText l d)).size ≤ 65124 := by rw [str_size]; omega
    have CSB : Hid (∀ u : World, IntsAt u TL (lbF l) → Calls Try.prog 37 #[.slice TL l.length cL, .string d] u fun e w' => e = .returned (.string (str (mpText l d))) ∧ Below u.heap.size u w') := fun u hu => s_MplsBytes TL cL l d u hu (by omega) (by omega)
    have CRs : Hid (∀ u : World, Calls Try.prog 35 #[.string (str (mpText l d))] u fun e w' => ∃ v, e = .returned (.tuple #[v, .string (mpD (str (mpText l d))), .int .i64 (mpC (str (mpText l d)))]) ∧ ownR w' u.heap.size 55 3 v (mpR (str (mpText l d))).length (lbF (mpR (str (mpText l d)))) ∧ Below u.heap.size u w') := fun u => i_ReadMpls _ u (by omega)
    have CRt : Hid (∀ u : World, Calls Try.prog 35 #[.string t] u fun e w' => ∃ v, e = .returned (.tuple #[v, .string (mpD t), .int .i64 (mpC t)]) ∧ ownR w' u.heap.size 55 3 v (mpR t).length (lbF (mpR t)) ∧ Below u.heap.size u w') := fun u => i_ReadMpls t u (by omega)
    have CSt : Hid (∀ u : World, Calls Try.prog 36 #[.string t] u fun e w' => ∃ v, e = .returned (.tuple #[v, .string (mpD t), .int .i64 (mpC t)]) ∧ ownR w' u.heap.size 55 3 v (mpR t).length (lbF (mpR t)) ∧ Below u.heap.size u w') := fun u => s_ReadMpls t u (by omega)
    have hrt := mpR_len t
    have CSA : Hid (∀ (S1 S2 : Option Addr) (c1 c2 : Nat) (u : World), IntsAt u S1 (lbF (mpR t)) → IntsAt u S2 (lbF (mpR t)) → Calls Try.prog 38 #[.slice S1 (mpR t).length c1, .slice S2 (mpR t).length c2] u fun e w' => e = .returned (.bool true) ∧ Below u.heap.size u w') := fun S1 S2 c1 c2 u h1 h2 => l_sameLabels S1 S2 c1 c2 (mpR t) u h1 h2 (by omega)
    have CSL : Hid (∀ (S1 S2 : Option Addr) (c1 c2 : Nat) (u : World), IntsAt u S1 (lbF l) → IntsAt u S2 (lbF l) → Calls Try.prog 38 #[.slice S1 l.length c1, .slice S2 l.length c2] u fun e w' => e = .returned (.bool true) ∧ Below u.heap.size u w') := fun S1 S2 c1 c2 u h1 h2 => l_sameLabels S1 S2 c1 c2 l u h1 h2 (by omega)
    have HG : Hid (mpC t = 0 → str (mpText (mpR t) (mpD t)) = t ∧ (mpD t).size ≤ t.size) := fun h => mp_again h
    have HY : Hid ((lbsB l && carB d) = true → mpC (str (mpText l d)) = 0 ∧ mpR (str (mpText l d)) = l ∧ mpD (str (mpText l d)) = d ∧ ¬ str (mpText l d) = ⟨#[]⟩) := fun h => mp_yes2 l d h
    have HN : Hid ((lbsB l && carB d) = false → str (mpText l d) = ⟨#[]⟩) := fun h => mp_no2 l d h
    clear hvl hvs
    generalize str (mpText l d) = s at *
    go_wp2_with fail
    go_at_call 35
    refine (CRt.out _).mono ?_
    rintro e w4 ⟨vA, rfl, hA, hbq⟩
    obtain ⟨TA, cA, rfl⟩ := hA.form
    replace hL := hL.far hbq
    replace hb := hb.trans (hbq.mono hb.size)
    clear hbq
    go_wp2_with fail
    go_at_call 36
    refine (CSt.out _).mono ?_
    rintro e w5 ⟨vC, rfl, hC, hbq⟩
    obtain ⟨TC, cC, rfl⟩ := hC.form
    replace hL := hL.far hbq
    replace hA := hA.far hbq
    replace hb := hb.trans (hbq.mono hb.size)
    clear hbq CRt CSt
    have e1 : (mpC t != mpC t) = false := by simp
    by_cases hg : mpC t = 0
    · obtain ⟨g1, g2⟩ := HG.out hg
      have CAg : Hid (∀ (S1 : Option Addr) (c1 : Nat) (u : World), IntsAt u S1 (lbF (mpR t)) → Calls Try.prog 33 #[.slice S1 (mpR t).length c1, .string (mpD t)] u fun e w' => e = .returned (.string t) ∧ Below u.heap.size u w') := fun S1 c1 u hu => by
        have := i_MplsBytes S1 c1 (mpR t) (mpD t) u hu (by omega) (by omega)
        rw [g1] at this; exact this
      rw [hg]
      clear HG g1 g2 hg e1
      generalize mpR t = tr at *
      generalize mpD t = td at *
      cases hT : (lbsB l && carB d)
      · have y2 := HN.out hT
        have e2 : s.toList = [] := by rw [y2]; simp
        clear HY HN hT y2
        go_wp2_with (first | (go_at_call 37; refine (CSB.out _ hL.reads.2).mono ?_; rintro e w6 ⟨rfl, hbq⟩; replace hL := hL.far hbq; replace hA := hA.far hbq; replace hC := hC.far hbq; replace hb := hb.trans (hbq.mono hb.size); clear hbq) | (go_at_call 38; refine (CSA.out _ _ _ _ _ hA.reads.2 hC.reads.2).mono ?_; rintro e w7 ⟨rfl, hbq⟩; replace hL := hL.far hbq; replace hA := hA.far hbq; replace hC := hC.far hbq; replace hb := hb.trans (hbq.mono hb.size); clear hbq) | (go_at_call 33; refine (CAg.out _ _ _ hA.reads.2).mono ?_; rintro e w8 ⟨rfl, hbq⟩; replace hL := hL.far hbq; replace hA := hA.far hbq; replace hC := hC.far hbq; replace hb := hb.trans (hbq.mono hb.size); clear hbq))
        go_at_call 35
        refine (CRs.out _).mono ?_
        rintro e w9 ⟨vX, rfl, hX, hbq⟩
        replace hL := hL.far hbq
        replace hb := hb.trans (hbq.mono hb.size)
        clear hbq
        obtain ⟨TX, cX, rfl⟩ := hX.form
        go_wp2
        go_ret
        exact ⟨by first | rfl | exact ret_bool (by simp [e2]), hb⟩
      · obtain ⟨y1, y2, y3, y4⟩ := HY.out hT
        rw [y1, y2, y3] at CRs
        have e2 : ¬ s.toList = [] := fun hh => by have := str_ne y4; rw [hh] at this; simp at this
        clear HY HN hT y1 y2 y3 y4
        go_wp2_with (first | (go_at_call 37; refine (CSB.out _ hL.reads.2).mono ?_; rintro e w6 ⟨rfl, hbq⟩; replace hL := hL.far hbq; replace hA := hA.far hbq; replace hC := hC.far hbq; replace hb := hb.trans (hbq.mono hb.size); clear hbq) | (go_at_call 38; refine (CSA.out _ _ _ _ _ hA.reads.2 hC.reads.2).mono ?_; rintro e w7 ⟨rfl, hbq⟩; replace hL := hL.far hbq; replace hA := hA.far hbq; replace hC := hC.far hbq; replace hb := hb.trans (hbq.mono hb.size); clear hbq) | (go_at_call 33; refine (CAg.out _ _ _ hA.reads.2).mono ?_; rintro e w8 ⟨rfl, hbq⟩; replace hL := hL.far hbq; replace hA := hA.far hbq; replace hC := hC.far hbq; replace hb := hb.trans (hbq.mono hb.size); clear hbq))
        go_at_call 35
        refine (CRs.out _).mono ?_
        rintro e w9 ⟨vX, rfl, hX, hbq⟩
        replace hL := hL.far hbq
        replace hb := hb.trans (hbq.mono hb.size)
        clear hbq
        obtain ⟨TX, cX, rfl⟩ := hX.form
        go_wp2_with fail
        go_at_call 38
        refine (CSL.out _ _ _ _ _ hX.reads.2 hL.reads.2).mono ?_
        rintro e w10 ⟨rfl, hbq⟩
        replace hb := hb.trans (hbq.mono hb.size)
        go_wp2
        go_ret
        exact ⟨by first | rfl | exact ret_bool (by simp [e2]), hb⟩
    · have hgb : (mpC t == 0) = false := by simp [hg]
      clear HG hg
      generalize mpR t = tr at *
      generalize mpD t = td at *
      generalize mpC t = tc at *
      cases hT : (lbsB l && carB d)
      · have y2 := HN.out hT
        have e2 : s.toList = [] := by rw [y2]; simp
        clear HY HN hT y2
        go_wp2_with (first | (go_at_call 37; refine (CSB.out _ hL.reads.2).mono ?_; rintro e w6 ⟨rfl, hbq⟩; replace hL := hL.far hbq; replace hA := hA.far hbq; replace hC := hC.far hbq; replace hb := hb.trans (hbq.mono hb.size); clear hbq) | (go_at_call 38; refine (CSA.out _ _ _ _ _ hA.reads.2 hC.reads.2).mono ?_; rintro e w7 ⟨rfl, hbq⟩; replace hL := hL.far hbq; replace hA := hA.far hbq; replace hC := hC.far hbq; replace hb := hb.trans (hbq.mono hb.size); clear hbq))
        go_at_call 35
        refine (CRs.out _).mono ?_
        rintro e w9 ⟨vX, rfl, hX, hbq⟩
        replace hL := hL.far hbq
        replace hb := hb.trans (hbq.mono hb.size)
        clear hbq
        obtain ⟨TX, cX, rfl⟩ := hX.form
        go_wp2
        go_ret
        exact ⟨by first | rfl | exact ret_bool (by simp [e2]), hb⟩
      · obtain ⟨y1, y2, y3, y4⟩ := HY.out hT
        rw [y1, y2, y3] at CRs
        have e2 : ¬ s.toList = [] := fun hh => by have := str_ne y4; rw [hh] at this; simp at this
        clear HY HN hT y1 y2 y3 y4
        go_wp2_with (first | (go_at_call 37; refine (CSB.out _ hL.reads.2).mono ?_; rintro e w6 ⟨rfl, hbq⟩; replace hL := hL.far hbq; replace hA := hA.far hbq; replace hC := hC.far hbq; replace hb := hb.trans (hbq.mono hb.size); clear hbq) | (go_at_call 38; refine (CSA.out _ _ _ _ _ hA.reads.2 hC.reads.2).mono ?_; rintro e w7 ⟨rfl, hbq⟩; replace hL := hL.far hbq; replace hA := hA.far hbq; replace hC := hC.far hbq; replace hb := hb.trans (hbq.mono hb.size); clear hbq))
        go_at_call 35
        refine (CRs.out _).mono ?_
        rintro e w9 ⟨vX, rfl, hX, hbq⟩
        replace hL := hL.far hbq
        replace hb := hb.trans (hbq.mono hb.size)
        clear hbq
        obtain ⟨TX, cX, rfl⟩ := hX.form
        go_wp2_with fail
        go_at_call 38
        refine (CSL.out _ _ _ _ _ hX.reads.2 hL.reads.2).mono ?_
        rintro e w10 ⟨rfl, hbq⟩
        replace hb := hb.trans (hbq.mono hb.size)
        go_wp2
        go_ret
        exact ⟨by first | rfl | exact ret_bool (by simp [e2]), hb⟩
end Go.Proofs.Ytlnhiaapjphefaa
