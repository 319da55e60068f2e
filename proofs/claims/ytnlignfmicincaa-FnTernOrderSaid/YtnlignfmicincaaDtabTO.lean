/-
  Rules by masks that are put in either order: the law's walk.
-/
import Derived.Test.YtnlignfmicincaaTabNTern
import Derived.Test.YtnlignfmicincaaTabs2
import Derived.Test.YtnlignfmicincaaDtabT2o
namespace Go.Proofs.Ytnlignfmicincaa
open Go.RowKit Go.PlainAid
theorem tnput_ok2 {l : List TnV} {a0 a1 a2 a3 : Int} (h : tnLC l a0 a1 a2 a3 = 0) : tnOk ⟨land a0 a1, a1, a2, a3⟩ = true := by
  obtain ⟨_, hk, _, _, _⟩ := tnput_ok h
  unfold tnLC at h
  rw [hk, if_pos rfl] at h
  unfold tnPutC at h
  cases ho : tnOk ⟨land a0 a1, a1, a2, a3⟩
  · rw [ho] at h; simp at h
  · rfl
theorem tnLC_zero {l : List TnV} {a0 a1 a2 a3 : Int} (ht : tnTab l = true) (hk : keyB a0 = true) (ho : tnOk ⟨land a0 a1, a1, a2, a3⟩ = true) (hl : l.length ≤ 31) : tnLC l a0 a1 a2 a3 = 0 := by
  unfold tnLC
  rw [hk, if_pos rfl]
  unfold tnPutC; rw [ht, ho]
  simp only [Bool.and_self, Bool.not_true, Bool.false_eq_true, if_false]
  split
  · rfl
  · rw [if_neg (by omega)]
theorem tn_comm {l : List TnV} {a0 a1 a2 a3 b0 b1 b2 b3 : Int} (hl : l.length ≤ 30) (hne : ¬ (a2 = b2 ∧ a1 = b1 ∧ land a0 a1 = land b0 b1)) (h1 : tnLC l a0 a1 a2 a3 = 0) (h2 : tnLC (tnLR l a0 a1 a2 a3) b0 b1 b2 b3 = 0) : tnLC l b0 b1 b2 b3 = 0 ∧ tnLC (tnLR l b0 b1 b2 b3) a0 a1 a2 a3 = 0 ∧ tnLR (tnLR l a0 a1 a2 a3) b0 b1 b2 b3 = tnLR (tnLR l b0 b1 b2 b3) a0 a1 a2 a3 := by
  obtain ⟨t1, ka, _, r1, t2⟩ := tnput_ok h1
  obtain ⟨_, kb, _, r2, _⟩ := tnput_ok h2
  have o1 := tnput_ok2 h1
  have o2 := tnput_ok2 h2
  have c1 : tnLC l b0 b1 b2 b3 = 0 := tnLC_zero t1 kb o2 (by omega)
  obtain ⟨_, _, _, r3, t3⟩ := tnput_ok c1
  have hlen := tnPut_len l b0 b1 b2 b3
  have c2 : tnLC (tnLR l b0 b1 b2 b3) a0 a1 a2 a3 = 0 := tnLC_zero (by rw [r3]; exact t3) ka o1 (by omega)
  obtain ⟨_, _, _, r4, _⟩ := tnput_ok c2
  refine ⟨c1, c2, ?_⟩
  rw [r2, r4, r1, r3]
  obtain ⟨_, q2, q3⟩ := (tnTab_iff l).1 t1
  refine put_comm (ok := tnOk) tnOrd tnOrd.irr tnOrd.tr ⟨0, 0, 0, 0⟩ l _ _ o1 o2 q2 q3 ?_
  simp only [tnLt, decide_eq_true_iff]
  generalize land a0 a1 = u at *
  generalize land b0 b1 = v at *
  omega
set_option maxRecDepth 100000 in
set_option maxHeartbeats 12800000 in
theorem walk_FnTernOrder (a : Option Addr) (len cap : Nat) (zs : List Int) (a1 : Option Addr) (len1 cap1 : Nat) (zs1 : List Int) (w : World) (w0 : IsRow .u8 w a len cap zs) (w1 : IsRow .u8 w a1 len1 cap1 zs1) :
    Calls Try.prog 5 #[.slice a len cap, .slice a1 len1 cap1] w fun e w' => e = .returned (.bool true) ∧ Below w.heap.size w w' := by
  have hl := row_len w0
  have hl1 := row_len w1
  by_cases hz : 1048576 < len
  · go_enter Try.func5, Try.ntmps5
    go_wp2
    go_ret
    exact ⟨rfl, Below.refl _ _⟩
  by_cases hz1 : 1048576 < len1
  · go_enter Try.func5, Try.ntmps5
    go_wp2_with fail
    refine (big_no _ _ _ _ (by omega)).mono ?_
    rintro e w' ⟨rfl, rfl⟩
    go_wp2
    go_ret
    exact ⟨rfl, Below.refl _ _⟩
  have hCo := code_of_row w0 (by omega)
  have hCm := code_of_row w1 (by omega)
  clear w0 w1
  go_enter Try.func5, Try.ntmps5
  go_wp2_with fail
  refine (big_no _ _ _ _ (by omega)).mono ?_
  rintro e w' ⟨rfl, rfl⟩
  go_wp2_with fail
  refine (big_no _ _ _ _ (by omega)).mono ?_
  rintro e w' ⟨rfl, rfl⟩
  go_wp2_with fail
  refine (d_TernPut _ a len cap _ hCo).mono ?_
  rintro e w1 ⟨g, c, l, xa, xp, xq, xx, rfl, hL, hll, hlc, hb⟩
  go_wp2_with fail
  refine (d_TernPut _ a1 len1 cap1 _ (hCm.below hb)).mono ?_
  rintro e w2 ⟨g2, c2, l2, yb, yr, ys, yy, rfl, _, _, _, hbq⟩
  replace hL := hL.far hbq
  replace hb := hb.trans (hbq.mono hb.size)
  clear hbq hCo hCm
  have CP : Hid (∀ (m : List TnV) (k0 k1 k2 k3 : Int) (v : Value) (B : Nat) (u : World), m.length ≤ 1048576 → ownR u B 75 4 v m.length (tnF m) → Calls Try.prog 19 #[v, .int .i64 k0, .int .i64 k1, .int .i64 k2, .int .i64 k3] u fun e w' => ∃ v', e = .returned (.tuple #[v', .int .i64 (tnLC m k0 k1 k2 k3)]) ∧ ownR w' u.heap.size 75 4 v' (tnLR m k0 k1 k2 k3).length (tnF (tnLR m k0 k1 k2 k3)) ∧ Below u.heap.size u w') := fun m k0 k1 k2 k3 v B u h1 h2 => i_TernPutO v B m k0 k1 k2 k3 u h1 h2
  have CM : Hid (∀ (m : List TnV) (S1 S2 : Option Addr) (c1 c2 : Nat) (u : World), m.length ≤ 1048576 → IntsAt u S1 (tnF m) → IntsAt u S2 (tnF m) → Calls Try.prog 21 #[.slice S1 m.length c1, .slice S2 m.length c2] u fun e w' => e = .returned (.bool true) ∧ Below u.heap.size u w') := fun m S1 S2 c1 c2 u hm h1 h2 => l_sameTerns S1 S2 c1 c2 m u h1 h2 (by omega)
  have CSP : Hid (∀ u : World, IntsAt u (some ⟨g, 0, none⟩) (tnF l) → Calls Try.prog 20 #[.slice (some ⟨g, 0, none⟩) l.length c, .int .i64 xa, .int .i64 xp, .int .i64 xq, .int .i64 xx] u fun e w' => ∃ v, e = .returned (.tuple #[v, .int .i64 (tnLC l xa xp xq xx)]) ∧ ownR w' u.heap.size 75 4 v (tnLR l xa xp xq xx).length (tnF (tnLR l xa xp xq xx)) ∧ Below u.heap.size u w') := fun u hu => s_TernPut _ c l xa xp xq xx u hu (by omega)
  have HC : Hid (l.length ≤ 30 → ¬ (xq = ys ∧ xp = yr ∧ bits .and .i64 xa xp = bits .and .i64 yb yr) → tnLC l xa xp xq xx = 0 → tnLC (tnLR l xa xp xq xx) yb yr ys yy = 0 → tnLC l yb yr ys yy = 0 ∧ tnLC (tnLR l yb yr ys yy) xa xp xq xx = 0 ∧ tnLR (tnLR l xa xp xq xx) yb yr ys yy = tnLR (tnLR l yb yr ys yy) xa xp xq xx) := fun h1 h2 h3 h4 => tn_comm h1 h2 h3 h4
  have p1 := tnPut_len l xa xp xq xx
  have p2 := tnPut_len (tnLR l xa xp xq xx) yb yr ys yy
  have p3 := tnPut_len l yb yr ys yy
  have p4 := tnPut_len (tnLR l yb yr ys yy) xa xp xq xx
  go_wp2_with fail
  go_at_call 19
  refine (CP.out l xa xp xq xx _ _ _ (by omega) hL).mono ?_
  rintro e w3 ⟨vM, rfl, hM, hbq⟩
  replace hL := hL.far hbq
  replace hb := hb.trans (hbq.mono hb.size)
  clear hbq
  generalize hm : tnLR l xa xp xq xx = pm at *
  generalize tnLC l xa xp xq xx = ci at *
  go_wp2_with fail
  go_at_call 20
  refine (CSP.out _ hL.reads.2).mono ?_
  rintro e w4 ⟨vW, rfl, hW, hbq⟩
  obtain ⟨TW, cW, rfl⟩ := hW.form
  replace hL := hL.far hbq
  replace hM := hM.far hbq
  replace hb := hb.trans (hbq.mono hb.size)
  clear hbq CSP
  go_wp2_with fail
  go_at_call 19
  refine (CP.out pm yb yr ys yy _ _ _ (by omega) hM).mono ?_
  rintro e w5 ⟨vN, rfl, hN, hbq⟩
  replace hL := hL.far hbq
  replace hM := hM.far hbq
  replace hW := hW.far hbq
  replace hb := hb.trans (hbq.mono hb.size)
  clear hbq hm
  generalize tnLR pm yb yr ys yy = pn at *
  generalize tnLC pm yb yr ys yy = cj at *
  obtain ⟨TM, cM, rfl⟩ := hM.form
  obtain ⟨TN, cN, rfl⟩ := hN.form
  have hii : (ci != ci) = false := by simp
  have hie : (ci == ci) = true := by simp
  go_wp2_with fail
  go_at_call 21
  refine (CM.out pm _ _ _ _ _ (by omega) hM.reads.2 hW.reads.2).mono ?_
  rintro e w6 ⟨rfl, hbq⟩
  replace hL := hL.far hbq
  replace hM := hM.far hbq
  replace hW := hW.far hbq
  replace hN := hN.far hbq
  replace hb := hb.trans (hbq.mono hb.size)
  clear hbq
  have hcase : ¬ ci = 0 ∨ ci = 0 ∧ ¬ cj = 0 ∨ ci = 0 ∧ cj = 0 ∧ 30 < l.length ∨ ci = 0 ∧ cj = 0 ∧ l.length ≤ 30 ∧ (xq = ys ∧ xp = yr ∧ bits .and .i64 xa xp = bits .and .i64 yb yr) ∨ ci = 0 ∧ cj = 0 ∧ l.length ≤ 30 ∧ ¬ (xq = ys ∧ xp = yr ∧ bits .and .i64 xa xp = bits .and .i64 yb yr) := by
    by_cases q1 : ci = 0
    · by_cases q2 : cj = 0
      · by_cases q3 : 30 < l.length
        · exact .inr (.inr (.inl ⟨q1, q2, q3⟩))
        · by_cases q4 : xq = ys ∧ xp = yr ∧ bits .and .i64 xa xp = bits .and .i64 yb yr
          · exact .inr (.inr (.inr (.inl ⟨q1, q2, by omega, q4⟩)))
          · exact .inr (.inr (.inr (.inr ⟨q1, q2, by omega, q4⟩)))
      · exact .inr (.inl ⟨q1, q2⟩)
    · exact .inl q1
  rcases hcase with q1 | ⟨q1, q2⟩ | ⟨q1, q2, q3⟩ | ⟨q1, q2, q3, q4, q5, q6⟩ | ⟨q1, q2, q3, q4⟩
  · have e1 : (ci != 0) = true := by simp [q1]
    clear q1 HC
    go_wp2_with fail
    go_at_call 21
    refine (CM.out pm _ _ _ _ _ (by omega) hM.reads.2 hW.reads.2).mono ?_
    rintro e w7 ⟨rfl, hbq⟩
    replace hb := hb.trans (hbq.mono hb.size)
    go_wp2
    go_ret
    exact ⟨rfl, hb⟩
  · subst q1
    have e1 : (cj != 0) = true := by simp [q2]
    clear q2 HC
    go_wp2_with fail
    go_at_call 21
    refine (CM.out pm _ _ _ _ _ (by omega) hM.reads.2 hW.reads.2).mono ?_
    rintro e w7 ⟨rfl, hbq⟩
    replace hb := hb.trans (hbq.mono hb.size)
    go_wp2
    go_ret
    exact ⟨rfl, hb⟩
  · subst q1 q2
    have e1 : (30 : Int) < (l.length : Int) := by omega
    clear HC
    go_wp2_with fail
    go_at_call 21
    refine (CM.out pm _ _ _ _ _ (by omega) hM.reads.2 hW.reads.2).mono ?_
    rintro e w7 ⟨rfl, hbq⟩
    replace hb := hb.trans (hbq.mono hb.size)
    go_wp2
    go_ret
    exact ⟨rfl, hb⟩
  · subst q1 q2
    have e1 : decide ((30 : Int) < (l.length : Int)) = false := by simp; omega
    have e2 : (xq == ys) = true := by simp [q4]
    have e3 : (xp == yr) = true := by simp [q5]
    have e4 : (bits .and .i64 xa xp == bits .and .i64 yb yr) = true := by rw [q6]; simp
    clear HC q4 q5 q6
    go_wp2_with fail
    go_at_call 21
    refine (CM.out pm _ _ _ _ _ (by omega) hM.reads.2 hW.reads.2).mono ?_
    rintro e w7 ⟨rfl, hbq⟩
    replace hb := hb.trans (hbq.mono hb.size)
    go_wp2
    go_ret
    exact ⟨rfl, hb⟩
  · subst q1 q2
    obtain ⟨k0, o0, hnq⟩ := HC.out q3 q4 rfl rfl
    have e1 : decide ((30 : Int) < (l.length : Int)) = false := by simp; omega
    have hne : (xq == ys) = false ∨ (xq == ys) = true ∧ (xp == yr) = false ∨ (xq == ys) = true ∧ (xp == yr) = true ∧ (bits .and .i64 xa xp == bits .and .i64 yb yr) = false := by
      by_cases z1 : xq = ys
      · by_cases z2 : xp = yr
        · have z3 : ¬ bits .and .i64 xa xp = bits .and .i64 yb yr := fun h => q4 ⟨z1, z2, h⟩
          exact .inr (.inr ⟨by simp [z1], by simp [z2], by simp [z3]⟩)
        · exact .inr (.inl ⟨by simp [z1], by simp [z2]⟩)
      · exact .inl (by simp [z1])
    have hll5 : l.length ≤ 1048576 := by omega
    have CP1 : Hid (∀ (v : Value) (B : Nat) (u : World), ownR u B 75 4 v l.length (tnF l) → Calls Try.prog 19 #[v, .int .i64 yb, .int .i64 yr, .int .i64 ys, .int .i64 yy] u fun e w' => ∃ v', e = .returned (.tuple #[v', .int .i64 0]) ∧ ownR w' u.heap.size 75 4 v' (tnLR l yb yr ys yy).length (tnF (tnLR l yb yr ys yy)) ∧ Below u.heap.size u w') := fun v B u h => by
      have := CP.out l yb yr ys yy v B u hll5 h
      rw [k0] at this; exact this
    have hpp5 : (tnLR l yb yr ys yy).length ≤ 1048576 := by omega
    have CP2 : Hid (∀ (v : Value) (B : Nat) (u : World), ownR u B 75 4 v (tnLR l yb yr ys yy).length (tnF (tnLR l yb yr ys yy)) → Calls Try.prog 19 #[v, .int .i64 xa, .int .i64 xp, .int .i64 xq, .int .i64 xx] u fun e w' => ∃ v', e = .returned (.tuple #[v', .int .i64 0]) ∧ ownR w' u.heap.size 75 4 v' pn.length (tnF pn) ∧ Below u.heap.size u w') := fun v B u h => by
      have := CP.out (tnLR l yb yr ys yy) xa xp xq xx v B u hpp5 h
      rw [o0, ← hnq] at this; exact this
    have hpn5 : pn.length ≤ 1048576 := by omega
    clear HC q4 k0 o0 hnq p1 p2 p3 p4 CP hpp5
    generalize tnLR l yb yr ys yy = pp at *
    rcases hne with e2 | ⟨e2, e3⟩ | ⟨e2, e3, e4⟩
    all_goals
      go_wp2_with fail
      go_at_call 19
      refine (CP1.out _ _ _ hL).mono ?_
      rintro e w7 ⟨vP, rfl, hP, hbq⟩
      replace hN := hN.far hbq
      replace hb := hb.trans (hbq.mono hb.size)
      clear hbq
      go_wp2_with fail
      go_at_call 19
      refine (CP2.out _ _ _ hP).mono ?_
      rintro e w8 ⟨vQ, rfl, hQ, hbq⟩
      obtain ⟨TQ, cQ, rfl⟩ := hQ.form
      replace hN := hN.far hbq
      replace hb := hb.trans (hbq.mono hb.size)
      clear hbq
      go_wp2_with fail
      go_at_call 21
      refine (CM.out pn _ _ _ _ _ hpn5 hN.reads.2 hQ.reads.2).mono ?_
      rintro e w9 ⟨rfl, hbq⟩
      replace hb := hb.trans (hbq.mono hb.size)
      go_wp2
      go_ret
      exact ⟨rfl, hb⟩
end Go.Proofs.Ytnlignfmicincaa
