/-
  Rules by prefixes that are put in either order: the law's walk.
-/
import Derived.Test.YtgcingjcneafpaaTabNPrefix
import Derived.Test.YtgcingjcneafpaaTabs2
import Derived.Test.YtgcingjcneafpaaDtabP2o
namespace Go.Proofs.Ytgcingjcneafpaa
open Go.RowKit Go.PlainAid
theorem pfLC_zero {l : List PfV} {a0 a1 a2 : Int} (ht : pfTab l = true) (ho : pfOk (pfR a0 a1 a2) = true) (hl : l.length ≤ 31) : pfLC l a0 a1 a2 = 0 := by
  unfold pfLC pfPutC; rw [ht, ho]
  simp only [Bool.and_self, Bool.not_true, Bool.false_eq_true, if_false]
  split
  · rfl
  · rw [if_neg (by omega)]
theorem pfput_ok2 {l : List PfV} {a0 a1 a2 : Int} (h : pfLC l a0 a1 a2 = 0) : pfOk (pfR a0 a1 a2) = true := by
  unfold pfLC pfPutC at h
  cases ho : pfOk (pfR a0 a1 a2)
  · rw [ho] at h; simp at h
  · rfl
theorem pf_comm {l : List PfV} {a0 a1 a2 b0 b1 b2 : Int} (hl : l.length ≤ 30) (hne : ¬ (a1 = b1 ∧ fb a0 a1 = fb b0 b1)) (h1 : pfLC l a0 a1 a2 = 0) (h2 : pfLC (pfLR l a0 a1 a2) b0 b1 b2 = 0) : pfLC l b0 b1 b2 = 0 ∧ pfLC (pfLR l b0 b1 b2) a0 a1 a2 = 0 ∧ pfLR (pfLR l a0 a1 a2) b0 b1 b2 = pfLR (pfLR l b0 b1 b2) a0 a1 a2 := by
  obtain ⟨t1, ka, ba, r1, t2, o1⟩ := pfput_ok h1
  obtain ⟨_, kb, bb, r2, _, o2⟩ := pfput_ok h2
  have c1 : pfLC l b0 b1 b2 = 0 := pfLC_zero t1 (pfput_ok2 h2) (by omega)
  obtain ⟨_, _, _, r3, t3, _⟩ := pfput_ok c1
  have hlen := pfPut_len l b0 b1 b2
  have c2 : pfLC (pfLR l b0 b1 b2) a0 a1 a2 = 0 := pfLC_zero (by rw [r3]; exact t3) (pfput_ok2 h1) (by omega)
  obtain ⟨_, _, _, r4, _, _⟩ := pfput_ok c2
  refine ⟨c1, c2, ?_⟩
  rw [r2, r4, r1, r3]
  obtain ⟨_, q2, q3⟩ := (pfTab_iff l).1 t1
  refine put_comm (ok := pfOk) pfOrd pfOrd.irr pfOrd.tr ⟨0, 0, 0⟩ l _ _ o1 o2 q2 q3 ?_
  have b0' := (of_inB ba).1
  have hu : a1 = b1 → ¬ top a0 a1 = top b0 b1 := fun e ht => by
    apply hne
    refine ⟨e, ?_⟩
    have hp := (pow_bd b0').1
    subst e
    unfold top at ht
    unfold fb
    exact Int.eq_of_mul_eq_mul_right (by omega) ht
  simp only [pfLt, decide_eq_true_iff]
  by_cases e : a1 = b1
  · have := hu e
    generalize top a0 a1 = u at *
    generalize top b0 b1 = v at *
    omega
  · omega
set_option maxRecDepth 100000 in
set_option maxHeartbeats 12800000 in
theorem walk_FnPrefixOrder (a : Option Addr) (len cap : Nat) (zs : List Int) (a1 : Option Addr) (len1 cap1 : Nat) (zs1 : List Int) (w : World) (w0 : IsRow .u8 w a len cap zs) (w1 : IsRow .u8 w a1 len1 cap1 zs1) :
    Calls Try.prog 5 #[.slice a len cap, .slice a1 len1 cap1] w fun e w' => e = .returned (.bool true) ∧ Below w.heap.size w w' := by
  have hl := row_len w0
  have hl1 := row_len w1
  by_cases hz : 1048576 < len
  · go_enter Try.func5, Try.ntmps5
    go_wp2
    go_ret
    exact ⟨rfl, Below.refl _ _⟩
  by_cases hz1 : 1048576 < len1
  · go_enter Try.func5, Try.ntmps5
    go_wp2_with fail
    refine (big_no _ _ _ _ (by omega)).mono ?_
    rintro e w' ⟨rfl, rfl⟩
    go_wp2
    go_ret
    exact ⟨rfl, Below.refl _ _⟩
  have hCo := code_of_row w0 (by omega)
  have hCm := code_of_row w1 (by omega)
  clear w0 w1
  go_enter Try.func5, Try.ntmps5
  go_wp2_with fail
  refine (big_no _ _ _ _ (by omega)).mono ?_
  rintro e w' ⟨rfl, rfl⟩
  go_wp2_with fail
  refine (big_no _ _ _ _ (by omega)).mono ?_
  rintro e w' ⟨rfl, rfl⟩
  go_wp2_with fail
  refine (d_PrefixPut _ a len cap _ hCo).mono ?_
  rintro e w1 ⟨g, c, l, xa, xn, xx, rfl, hL, hll, hlc, _, _, hb⟩
  go_wp2_with fail
  refine (d_PrefixPut _ a1 len1 cap1 _ (hCm.below hb)).mono ?_
  rintro e w2 ⟨g2, c2, l2, yb, ym, yy, rfl, _, _, _, _, _, hbq⟩
  replace hL := hL.far hbq
  replace hb := hb.trans (hbq.mono hb.size)
  clear hbq hCo hCm
  have CP : Hid (∀ (m : List PfV) (k0 k1 k2 : Int) (v : Value) (B : Nat) (u : World), m.length ≤ 1048576 → ownR u B 70 3 v m.length (pfF m) → Calls Try.prog 15 #[v, .int .i64 k0, .int .i64 k1, .int .i64 k2] u fun e w' => ∃ v', e = .returned (.tuple #[v', .int .i64 (pfLC m k0 k1 k2)]) ∧ ownR w' u.heap.size 70 3 v' (pfLR m k0 k1 k2).length (pfF (pfLR m k0 k1 k2)) ∧ Below u.heap.size u w') := fun m k0 k1 k2 v B u h1 h2 => i_PrefixPutO v B m k0 k1 k2 u h1 h2
  have CM : Hid (∀ (m : List PfV) (S1 S2 : Option Addr) (c1 c2 : Nat) (u : World), m.length ≤ 1048576 → IntsAt u S1 (pfF m) → IntsAt u S2 (pfF m) → Calls Try.prog 17 #[.slice S1 m.length c1, .slice S2 m.length c2] u fun e w' => e = .returned (.bool true) ∧ Below u.heap.size u w') := fun m S1 S2 c1 c2 u hm h1 h2 => l_samePrefixes S1 S2 c1 c2 m u h1 h2 (by omega)
  have CSP : Hid (∀ u : World, IntsAt u (some ⟨g, 0, none⟩) (pfF l) → Calls Try.prog 16 #[.slice (some ⟨g, 0, none⟩) l.length c, .int .i64 xa, .int .i64 xn, .int .i64 xx] u fun e w' => ∃ v, e = .returned (.tuple #[v, .int .i64 (pfLC l xa xn xx)]) ∧ ownR w' u.heap.size 70 3 v (pfLR l xa xn xx).length (pfF (pfLR l xa xn xx)) ∧ Below u.heap.size u w') := fun u hu => s_PrefixPut _ c l xa xn xx u hu (by omega)
  have HC : Hid (l.length ≤ 30 → ¬ (xn = ym ∧ fb xa xn = fb yb ym) → pfLC l xa xn xx = 0 → pfLC (pfLR l xa xn xx) yb ym yy = 0 → pfLC l yb ym yy = 0 ∧ pfLC (pfLR l yb ym yy) xa xn xx = 0 ∧ pfLR (pfLR l xa xn xx) yb ym yy = pfLR (pfLR l yb ym yy) xa xn xx) := fun h1 h2 h3 h4 => pf_comm h1 h2 h3 h4
  have HN : Hid (pfLC l xa xn xx = 0 → 0 ≤ xn ∧ xn ≤ 32) := fun h => of_inB (pfput_ok h).2.2.1
  have p1 := pfPut_len l xa xn xx
  have p2 := pfPut_len (pfLR l xa xn xx) yb ym yy
  have p3 := pfPut_len l yb ym yy
  have p4 := pfPut_len (pfLR l yb ym yy) xa xn xx
  go_wp2_with fail
  go_at_call 15
  refine (CP.out l xa xn xx _ _ _ (by omega) hL).mono ?_
  rintro e w3 ⟨vM, rfl, hM, hbq⟩
  replace hL := hL.far hbq
  replace hb := hb.trans (hbq.mono hb.size)
  clear hbq
  generalize hm : pfLR l xa xn xx = pm at *
  generalize pfLC l xa xn xx = ci at *
  go_wp2_with fail
  go_at_call 16
  refine (CSP.out _ hL.reads.2).mono ?_
  rintro e w4 ⟨vW, rfl, hW, hbq⟩
  obtain ⟨TW, cW, rfl⟩ := hW.form
  replace hL := hL.far hbq
  replace hM := hM.far hbq
  replace hb := hb.trans (hbq.mono hb.size)
  clear hbq CSP
  go_wp2_with fail
  go_at_call 15
  refine (CP.out pm yb ym yy _ _ _ (by omega) hM).mono ?_
  rintro e w5 ⟨vN, rfl, hN, hbq⟩
  replace hL := hL.far hbq
  replace hM := hM.far hbq
  replace hW := hW.far hbq
  replace hb := hb.trans (hbq.mono hb.size)
  clear hbq hm
  generalize pfLR pm yb ym yy = pn at *
  generalize pfLC pm yb ym yy = cj at *
  obtain ⟨TM, cM, rfl⟩ := hM.form
  obtain ⟨TN, cN, rfl⟩ := hN.form
  have hii : (ci != ci) = false := by simp
  have hie : (ci == ci) = true := by simp
  go_wp2_with fail
  go_at_call 17
  refine (CM.out pm _ _ _ _ _ (by omega) hM.reads.2 hW.reads.2).mono ?_
  rintro e w6 ⟨rfl, hbq⟩
  replace hL := hL.far hbq
  replace hM := hM.far hbq
  replace hW := hW.far hbq
  replace hN := hN.far hbq
  replace hb := hb.trans (hbq.mono hb.size)
  clear hbq
  have hcase : ¬ ci = 0 ∨ ci = 0 ∧ ¬ cj = 0 ∨ ci = 0 ∧ cj = 0 ∧ 30 < l.length ∨ ci = 0 ∧ cj = 0 ∧ l.length ≤ 30 ∧ (xn = ym ∧ fb xa xn = fb yb ym) ∨ ci = 0 ∧ cj = 0 ∧ l.length ≤ 30 ∧ ¬ (xn = ym ∧ fb xa xn = fb yb ym) := by
    by_cases q1 : ci = 0
    · by_cases q2 : cj = 0
      · by_cases q3 : 30 < l.length
        · exact .inr (.inr (.inl ⟨q1, q2, q3⟩))
        · by_cases q4 : xn = ym ∧ fb xa xn = fb yb ym
          · exact .inr (.inr (.inr (.inl ⟨q1, q2, by omega, q4⟩)))
          · exact .inr (.inr (.inr (.inr ⟨q1, q2, by omega, q4⟩)))
      · exact .inr (.inl ⟨q1, q2⟩)
    · exact .inl q1
  rcases hcase with q1 | ⟨q1, q2⟩ | ⟨q1, q2, q3⟩ | ⟨q1, q2, q3, q4, q5⟩ | ⟨q1, q2, q3, q4⟩
  · have e1 : (ci != 0) = true := by simp [q1]
    clear q1 HC HN
    go_wp2_with fail
    go_at_call 17
    refine (CM.out pm _ _ _ _ _ (by omega) hM.reads.2 hW.reads.2).mono ?_
    rintro e w7 ⟨rfl, hbq⟩
    replace hb := hb.trans (hbq.mono hb.size)
    go_wp2
    go_ret
    exact ⟨rfl, hb⟩
  · subst q1
    have e1 : (cj != 0) = true := by simp [q2]
    clear q2 HC HN
    go_wp2_with fail
    go_at_call 17
    refine (CM.out pm _ _ _ _ _ (by omega) hM.reads.2 hW.reads.2).mono ?_
    rintro e w7 ⟨rfl, hbq⟩
    replace hb := hb.trans (hbq.mono hb.size)
    go_wp2
    go_ret
    exact ⟨rfl, hb⟩
  · subst q1 q2
    have e1 : (30 : Int) < (l.length : Int) := by omega
    clear HC HN
    go_wp2_with fail
    go_at_call 17
    refine (CM.out pm _ _ _ _ _ (by omega) hM.reads.2 hW.reads.2).mono ?_
    rintro e w7 ⟨rfl, hbq⟩
    replace hb := hb.trans (hbq.mono hb.size)
    go_wp2
    go_ret
    exact ⟨rfl, hb⟩
  · subst q1 q2
    have e1 : decide ((30 : Int) < (l.length : Int)) = false := by simp; omega
    obtain ⟨hn0, hn1⟩ := HN.out rfl
    have hw := wraps_i64 (32 - xn) (by omega) (by omega)
    have hs : (0 : Int) ≤ 32 - xn := by omega
    have e2 : (xn == ym) = true := by simp [q4]
    have e3 : (xa / 2 ^ (32 - xn).toNat == yb / 2 ^ (32 - xn).toNat) = true := by
      unfold fb at q5
      rw [← q4] at q5
      rw [q5]; simp
    clear HC HN q4 q5
    go_wp2_with fail
    go_at_call 17
    refine (CM.out pm _ _ _ _ _ (by omega) hM.reads.2 hW.reads.2).mono ?_
    rintro e w7 ⟨rfl, hbq⟩
    replace hb := hb.trans (hbq.mono hb.size)
    go_wp2
    go_ret
    exact ⟨rfl, hb⟩
  · subst q1 q2
    obtain ⟨k0, o0, hnq⟩ := HC.out q3 q4 rfl rfl
    have e1 : decide ((30 : Int) < (l.length : Int)) = false := by simp; omega
    obtain ⟨hn0, hn1⟩ := HN.out rfl
    have hw := wraps_i64 (32 - xn) (by omega) (by omega)
    have hs : (0 : Int) ≤ 32 - xn := by omega
    have hne : (xn == ym) = false ∨ (xn == ym) = true ∧ (xa / 2 ^ (32 - xn).toNat == yb / 2 ^ (32 - xn).toNat) = false := by
      by_cases z1 : xn = ym
      · have z3 : ¬ xa / 2 ^ (32 - xn).toNat = yb / 2 ^ (32 - xn).toNat := fun h => q4 ⟨z1, by unfold fb; rw [← z1]; exact h⟩
        exact .inr ⟨by simp [z1], by simp [z3]⟩
      · exact .inl (by simp [z1])
    have hll5 : l.length ≤ 1048576 := by omega
    have CP1 : Hid (∀ (v : Value) (B : Nat) (u : World), ownR u B 70 3 v l.length (pfF l) → Calls Try.prog 15 #[v, .int .i64 yb, .int .i64 ym, .int .i64 yy] u fun e w' => ∃ v', e = .returned (.tuple #[v', .int .i64 0]) ∧ ownR w' u.heap.size 70 3 v' (pfLR l yb ym yy).length (pfF (pfLR l yb ym yy)) ∧ Below u.heap.size u w') := fun v B u h => by
      have := CP.out l yb ym yy v B u hll5 h
      rw [k0] at this; exact this
    have hpp5 : (pfLR l yb ym yy).length ≤ 1048576 := by omega
    have CP2 : Hid (∀ (v : Value) (B : Nat) (u : World), ownR u B 70 3 v (pfLR l yb ym yy).length (pfF (pfLR l yb ym yy)) → Calls Try.prog 15 #[v, .int .i64 xa, .int .i64 xn, .int .i64 xx] u fun e w' => ∃ v', e = .returned (.tuple #[v', .int .i64 0]) ∧ ownR w' u.heap.size 70 3 v' pn.length (pfF pn) ∧ Below u.heap.size u w') := fun v B u h => by
      have := CP.out (pfLR l yb ym yy) xa xn xx v B u hpp5 h
      rw [o0, ← hnq] at this; exact this
    have hpn5 : pn.length ≤ 1048576 := by omega
    clear HC HN q4 k0 o0 hnq p1 p2 p3 p4 CP hpp5
    generalize pfLR l yb ym yy = pp at *
    rcases hne with e2 | ⟨e2, e3⟩
    all_goals
      go_wp2_with fail
      go_at_call 15
      refine (CP1.out _ _ _ hL).mono ?_
      rintro e w7 ⟨vP, rfl, hP, hbq⟩
      replace hN := hN.far hbq
      replace hb := hb.trans (hbq.mono hb.size)
      clear hbq
      go_wp2_with fail
      go_at_call 15
      refine (CP2.out _ _ _ hP).mono ?_
      rintro e w8 ⟨vQ, rfl, hQ, hbq⟩
      obtain ⟨TQ, cQ, rfl⟩ := hQ.form
      replace hN := hN.far hbq
      replace hb := hb.trans (hbq.mono hb.size)
      clear hbq
      go_wp2_with fail
      go_at_call 17
      refine (CM.out pn _ _ _ _ _ hpn5 hN.reads.2 hQ.reads.2).mono ?_
      rintro e w9 ⟨rfl, hbq⟩
      replace hb := hb.trans (hbq.mono hb.size)
      go_wp2
      go_ret
      exact ⟨rfl, hb⟩
end Go.Proofs.Ytgcingjcneafpaa
