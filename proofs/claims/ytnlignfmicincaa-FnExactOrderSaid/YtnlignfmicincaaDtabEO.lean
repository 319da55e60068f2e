/-
  Rules asked exactly that are put in either order: the law's walk.
-/
import Derived.Test.YtnlignfmicincaaTabNExact
import Derived.Test.YtnlignfmicincaaTabs2
import Derived.Test.YtnlignfmicincaaDtabE2o
namespace Go.Proofs.Ytnlignfmicincaa
open Go.RowKit Go.PlainAid
theorem ex_comm {l : List ExV} {x y : ExV} (hl : l.length ≤ 30) (hk : ¬ x.key = y.key) (h1 : exPutC l x = 0) (h2 : exPutC (exPutR l x) y = 0) : exPutC l y = 0 ∧ exPutC (exPutR l y) x = 0 ∧ exPutR (exPutR l x) y = exPutR (exPutR l y) x := by
  obtain ⟨t1, k1, r1, t2⟩ := exput_ok h1
  obtain ⟨_, k2, r2, _⟩ := exput_ok h2
  have c1 : exPutC l y = 0 := by
    unfold exPutC; rw [t1, k2]
    simp only [Bool.and_self, Bool.not_true, Bool.false_eq_true, if_false]
    split
    · rfl
    · rw [if_neg (by omega)]
  obtain ⟨_, _, r3, t3⟩ := exput_ok c1
  have c2 : exPutC (exPutR l y) x = 0 := by
    have hlen := putL_length (lt := exLt) (⟨0, 0⟩ : ExV) l y
    unfold exPutC; rw [r3, t3, k1]
    simp only [Bool.and_self, Bool.not_true, Bool.false_eq_true, if_false]
    split
    · rfl
    · rw [if_neg (by rw [hlen]; split <;> omega)]
  obtain ⟨_, _, r4, _⟩ := exput_ok c2
  refine ⟨c1, c2, ?_⟩
  rw [r2, r4, r1, r3]
  obtain ⟨_, q2, q3⟩ := (exTab_iff l).1 t1
  refine put_comm (ok := exOk) exOrd exOrd.irr exOrd.tr ⟨0, 0⟩ l x y k1 k2 q2 q3 ?_
  simp only [exLt, decide_eq_true_iff]; omega
set_option maxRecDepth 100000 in
set_option maxHeartbeats 800000 in
theorem l_first (v : Value) (k : Int) (w : World) : Calls Try.prog 12 #[v, .int .i64 k] w fun e w' => e = .returned (if k = 0 then v else .slice none 0 0) ∧ w' = w := by
  by_cases hk : k = 0
  · rw [if_pos hk]
    have hk2 : (k != 0) = false := by simp [hk]
    clear hk
    go_enter Try.func12, Try.ntmps12
    go_wp2
    go_ret
    exact ⟨rfl, rfl⟩
  · rw [if_neg hk]
    have hk2 : (k != 0) = true := by simp [hk]
    clear hk
    go_enter Try.func12, Try.ntmps12
    go_wp2
    go_ret
    exact ⟨rfl, rfl⟩
set_option maxRecDepth 100000 in
set_option maxHeartbeats 12800000 in
theorem walk_FnExactOrder (a : Option Addr) (len cap : Nat) (zs : List Int) (a1 : Option Addr) (len1 cap1 : Nat) (zs1 : List Int) (w : World) (w0 : IsRow .u8 w a len cap zs) (w1 : IsRow .u8 w a1 len1 cap1 zs1) :
    Calls Try.prog 3 #[.slice a len cap, .slice a1 len1 cap1] w fun e w' => e = .returned (.bool true) ∧ Below w.heap.size w w' := by
  have hl := row_len w0
  have hl1 := row_len w1
  by_cases hz : 1048576 < len
  · go_enter Try.func3, Try.ntmps3
    go_wp2
    go_ret
    exact ⟨rfl, Below.refl _ _⟩
  by_cases hz1 : 1048576 < len1
  · go_enter Try.func3, Try.ntmps3
    go_wp2_with fail
    refine (big_no _ _ _ _ (by omega)).mono ?_
    rintro e w' ⟨rfl, rfl⟩
    go_wp2
    go_ret
    exact ⟨rfl, Below.refl _ _⟩
  have hCo := code_of_row w0 (by omega)
  have hCm := code_of_row w1 (by omega)
  clear w0 w1
  go_enter Try.func3, Try.ntmps3
  go_wp2_with fail
  refine (big_no _ _ _ _ (by omega)).mono ?_
  rintro e w' ⟨rfl, rfl⟩
  go_wp2_with fail
  refine (big_no _ _ _ _ (by omega)).mono ?_
  rintro e w' ⟨rfl, rfl⟩
  go_wp2_with fail
  refine (d_ExactPut _ a len cap _ hCo).mono ?_
  rintro e w1 ⟨g, c, l, ka, xa, rfl, hL, hll, hlc, hb⟩
  go_wp2_with fail
  refine (d_ExactPut _ a1 len1 cap1 _ (hCm.below hb)).mono ?_
  rintro e w2 ⟨g2, c2, l2, kb, xb, rfl, _, _, _, hbq⟩
  replace hL := hL.far hbq
  replace hb := hb.trans (hbq.mono hb.size)
  clear hbq hCo hCm
  have CP : Hid (∀ (m : List ExV) (k x : Int) (v : Value) (B : Nat) (u : World), m.length ≤ 1048576 → ownR u B 52 2 v m.length (exF m) → Calls Try.prog 11 #[v, .int .i64 k, .int .i64 x] u fun e w' => ∃ v', e = .returned (.tuple #[v', .int .i64 (exPutC m ⟨k, x⟩)]) ∧ ownR w' u.heap.size 52 2 v' (exPutR m ⟨k, x⟩).length (exF (exPutR m ⟨k, x⟩)) ∧ Below u.heap.size u w') := fun m k x v B u h1 h2 => i_ExactPutO m ⟨k, x⟩ v B u h1 h2
  have CM : Hid (∀ (m : List ExV) (S1 S2 : Option Addr) (c1 c2 : Nat) (u : World), m.length ≤ 1048576 → IntsAt u S1 (exF m) → IntsAt u S2 (exF m) → Calls Try.prog 8 #[.slice S1 m.length c1, .slice S2 m.length c2] u fun e w' => e = .returned (.bool true) ∧ Below u.heap.size u w') := fun m S1 S2 c1 c2 u hm h1 h2 => l_sameExacts S1 S2 c1 c2 m u h1 h2 (by omega)
  have CF : Hid (∀ (v : Value) (k : Int) (u : World), Calls Try.prog 12 #[v, .int .i64 k] u fun e w' => e = .returned (if k = 0 then v else .slice none 0 0) ∧ w' = u) := fun v k u => l_first v k u
  by_cases hlk : 30 < l.length ∨ ka = kb
  · have CID : Hid (∀ u : World, IntsAt u (some ⟨g, 0, none⟩) (exF l) → Calls Try.prog 9 #[.slice (some ⟨g, 0, none⟩) l.length c, .int .i64 ka] u fun e w' => ∃ v, e = .returned v ∧ ownR w' u.heap.size 52 2 v (exDropR l ⟨ka, 0⟩).length (exF (exDropR l ⟨ka, 0⟩)) ∧ Below u.heap.size u w') := fun u hu => i_ExactDrop g 0 c l ka u hu hlc (by omega)
    have CSD : Hid (∀ u : World, IntsAt u (some ⟨g, 0, none⟩) (exF l) → Calls Try.prog 10 #[.slice (some ⟨g, 0, none⟩) l.length c, .int .i64 ka] u fun e w' => ∃ v, e = .returned v ∧ ownR w' u.heap.size 52 2 v (exDropR l ⟨ka, 0⟩).length (exF (exDropR l ⟨ka, 0⟩)) ∧ Below u.heap.size u w') := fun u hu => s_ExactDrop _ c l ka u hu (by omega)
    have hdl := exDrop_len l ka
    generalize exDropR l ⟨ka, 0⟩ = pd at *
    have hcase : (30 : Int) < (l.length : Int) ∨ ¬ (30 : Int) < (l.length : Int) ∧ ka = kb := by omega
    rcases hcase with hlen | ⟨hlen, rfl⟩
    all_goals
      go_wp2_with fail
      go_at_call 9
      refine (CID.out _ hL.reads.2).mono ?_
      rintro e w3 ⟨vM, rfl, hM, hbq⟩
      obtain ⟨TM, cM, rfl⟩ := hM.form
      replace hL := hL.far hbq
      replace hb := hb.trans (hbq.mono hb.size)
      clear hbq
      go_wp2_with fail
      go_at_call 10
      refine (CSD.out _ hL.reads.2).mono ?_
      rintro e w4 ⟨vW, rfl, hW, hbq⟩
      obtain ⟨TW, cW, rfl⟩ := hW.form
      replace hM := hM.far hbq
      replace hb := hb.trans (hbq.mono hb.size)
      clear hbq
      go_wp2_with fail
      go_at_call 8
      refine (CM.out pd _ _ _ _ _ (by omega) hM.reads.2 hW.reads.2).mono ?_
      rintro e w5 ⟨rfl, hbq⟩
      replace hb := hb.trans (hbq.mono hb.size)
      go_wp2
      go_ret
      exact ⟨rfl, hb⟩
  · have h30 : ¬ (30 : Int) < (l.length : Int) := by omega
    have hkk : (ka == kb) = false := by simp; omega
    have HC : Hid (exPutC l ⟨ka, xa⟩ = 0 → exPutC (exPutR l ⟨ka, xa⟩) ⟨kb, xb⟩ = 0 → exPutC l ⟨kb, xb⟩ = 0 ∧ exPutC (exPutR l ⟨kb, xb⟩) ⟨ka, xa⟩ = 0 ∧ exPutR (exPutR l ⟨ka, xa⟩) ⟨kb, xb⟩ = exPutR (exPutR l ⟨kb, xb⟩) ⟨ka, xa⟩) := fun h1 h2 => ex_comm (x := ⟨ka, xa⟩) (y := ⟨kb, xb⟩) (by omega) (by show ¬ ka = kb; omega) h1 h2
    have CSP : Hid (∀ u : World, IntsAt u (some ⟨g, 0, none⟩) (exF l) → Calls Try.prog 13 #[.slice (some ⟨g, 0, none⟩) l.length c, .int .i64 ka, .int .i64 xa] u fun e w' => ∃ v, e = .returned (.tuple #[v, .int .i64 (exPutC l ⟨ka, xa⟩)]) ∧ ownR w' u.heap.size 52 2 v (exPutR l ⟨ka, xa⟩).length (exF (exPutR l ⟨ka, xa⟩)) ∧ Below u.heap.size u w') := fun u hu => s_ExactPut _ c l ⟨ka, xa⟩ u hu (by omega)
    have p1 := exPut_len l ka xa
    have p2 := exPut_len (exPutR l ⟨ka, xa⟩) kb xb
    have p3 := exPut_len l kb xb
    have p4 := exPut_len (exPutR l ⟨kb, xb⟩) ka xa
    have HZ : Hid (¬ exPutC l ⟨ka, xa⟩ = 0 → exPutR l ⟨ka, xa⟩ = []) := fun h => by unfold exPutR; rw [if_neg h]
    clear hlk
    go_wp2_with fail
    go_at_call 11
    refine (CP.out l ka xa _ _ _ (by omega) hL).mono ?_
    rintro e w3 ⟨vM, rfl, hM, hbq⟩
    replace hL := hL.far hbq
    replace hb := hb.trans (hbq.mono hb.size)
    clear hbq
    generalize hm : exPutR l ⟨ka, xa⟩ = pm at *
    go_wp2_with fail
    go_at_call 11
    refine (CP.out pm kb xb _ _ _ (by omega) hM).mono ?_
    rintro e w4 ⟨vN, rfl, hN, hbq⟩
    replace hL := hL.far hbq
    replace hM := hM.far hbq
    replace hb := hb.trans (hbq.mono hb.size)
    clear hbq
    go_wp2_with fail
    go_at_call 11
    refine (CP.out l kb xb _ _ _ (by omega) hL).mono ?_
    rintro e w5 ⟨vP, rfl, hP, hbq⟩
    replace hL := hL.far hbq
    replace hM := hM.far hbq
    replace hN := hN.far hbq
    replace hb := hb.trans (hbq.mono hb.size)
    clear hbq
    generalize hp : exPutR l ⟨kb, xb⟩ = pp at *
    go_wp2_with fail
    go_at_call 11
    refine (CP.out pp ka xa _ _ _ (by omega) hP).mono ?_
    rintro e w6 ⟨vQ, rfl, hQ, hbq⟩
    replace hL := hL.far hbq
    replace hM := hM.far hbq
    replace hN := hN.far hbq
    replace hb := hb.trans (hbq.mono hb.size)
    clear hbq hP CP hm hp
    generalize hpn : exPutR pm ⟨kb, xb⟩ = pn at *
    generalize hpq : exPutR pp ⟨ka, xa⟩ = pq at *
    generalize exPutC l ⟨ka, xa⟩ = ci at *
    generalize exPutC pm ⟨kb, xb⟩ = cj at *
    generalize exPutC l ⟨kb, xb⟩ = ck at *
    generalize exPutC pp ⟨ka, xa⟩ = co at *
    clear hpn hpq
    obtain ⟨TM, cM, rfl⟩ := hM.form
    obtain ⟨TN, cN, rfl⟩ := hN.form
    obtain ⟨TQ, cQ, rfl⟩ := hQ.form
    by_cases hci : ci = 0
    · subst hci
      by_cases hcj : cj = 0
      · subst hcj
        obtain ⟨k0, o0, hnq⟩ := HC.out rfl rfl
        subst k0 o0 hnq
        clear HC HZ
        go_wp2_with fail
        go_at_call 8
        refine (CM.out pn _ _ _ _ _ (by omega) hN.reads.2 hQ.reads.2).mono ?_
        rintro e w7 ⟨rfl, hbq⟩
        replace hL := hL.far hbq
        replace hM := hM.far hbq
        replace hb := hb.trans (hbq.mono hb.size)
        clear hbq hN hQ
        go_wp2_with fail
        go_at_call 13
        refine (CSP.out _ hL.reads.2).mono ?_
        rintro e w8 ⟨vS, rfl, hS, hbq⟩
        obtain ⟨TS, cS, rfl⟩ := hS.form
        replace hM := hM.far hbq
        replace hb := hb.trans (hbq.mono hb.size)
        clear hbq
        go_wp2_with fail
        go_at_call 12
        refine (CF.out _ _ _).mono ?_
        rintro e wz ⟨rfl, hz⟩
        rw [hz]
        clear hz wz
        rw [if_pos rfl]
        go_wp2_with fail
        go_at_call 8
        refine (CM.out pm _ _ _ _ _ (by omega) hM.reads.2 hS.reads.2).mono ?_
        rintro e w9 ⟨rfl, hbq⟩
        replace hb := hb.trans (hbq.mono hb.size)
        go_wp2
        go_ret
        exact ⟨rfl, hb⟩
      · have hj2 : (cj != 0) = true := by simp [hcj]
        clear hcj HC HZ
        go_wp2_with fail
        go_at_call 13
        refine (CSP.out _ hL.reads.2).mono ?_
        rintro e w8 ⟨vS, rfl, hS, hbq⟩
        obtain ⟨TS, cS, rfl⟩ := hS.form
        replace hM := hM.far hbq
        replace hb := hb.trans (hbq.mono hb.size)
        clear hbq
        go_wp2_with fail
        go_at_call 12
        refine (CF.out _ _ _).mono ?_
        rintro e wz ⟨rfl, hz⟩
        rw [hz]
        clear hz wz
        rw [if_pos rfl]
        go_wp2_with fail
        go_at_call 8
        refine (CM.out pm _ _ _ _ _ (by omega) hM.reads.2 hS.reads.2).mono ?_
        rintro e w9 ⟨rfl, hbq⟩
        replace hb := hb.trans (hbq.mono hb.size)
        go_wp2
        go_ret
        exact ⟨rfl, hb⟩
    · have hi2 : (ci != 0) = true := by simp [hci]
      clear HC
      go_wp2_with fail
      go_at_call 13
      refine (CSP.out _ hL.reads.2).mono ?_
      rintro e w8 ⟨vS, rfl, hS, hbq⟩
      obtain ⟨TS, cS, rfl⟩ := hS.form
      replace hM := hM.far hbq
      replace hb := hb.trans (hbq.mono hb.size)
      clear hbq
      go_wp2_with fail
      go_at_call 12
      refine (CF.out _ _ _).mono ?_
      rintro e wz ⟨rfl, hz⟩
      rw [hz]
      clear hz wz
      rw [if_neg hci]
      have hpz := HZ.out hci
      subst hpz
      clear hci
      go_wp2_with fail
      go_at_call 8
      refine (CM.out [] _ _ _ _ _ (by simp) hM.reads.2 (.inl rfl)).mono ?_
      rintro e w9 ⟨rfl, hbq⟩
      replace hb := hb.trans (hbq.mono hb.size)
      go_wp2
      go_ret
      exact ⟨rfl, hb⟩
end Go.Proofs.Ytnlignfmicincaa
