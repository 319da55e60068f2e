/-
  The law on tables by masks: a rule without a mask, of the least Pri, is found where no other one fits.
-/
import Derived.Test.YthmkeodakkdfiaaDtabT2
namespace Go.Proofs.Ythmkeodakkdfiaa
open Go.RowKit Go.PlainAid
set_option maxRecDepth 100000 in
set_option maxHeartbeats 12800000 in
theorem walk_FnTernAll (a : Option Addr) (len cap : Nat) (zs : List Int) (w : World) (w0 : IsRow .u8 w a len cap zs) :
    Calls Try.prog 8 #[.slice a len cap] w fun e w' => e = .returned (.bool true) ∧ Below w.heap.size w w' := by
  have hl := row_len w0
  by_cases hz : 1048576 < len
  · go_enter Try.func8, Try.ntmps8
    go_wp2
    go_ret
    exact ⟨rfl, Below.refl _ _⟩
  have hCo := code_of_row w0 (by omega)
  clear w0
  go_enter Try.func8, Try.ntmps8
  go_wp2_with fail
  refine (big_no _ _ _ _ (by omega)).mono ?_
  rintro e w' ⟨rfl, rfl⟩
  go_wp2_with fail
  refine (d_TernFind _ a len cap _ hCo).mono ?_
  rintro e w1 ⟨g, c, l, key, rfl, hL, hll, hlc, hb⟩
  clear hCo
  have CIP : Hid (∀ u : World, IntsAt u (some ⟨g, 0, none⟩) (tnF l) → Calls Try.prog 31 #[.slice (some ⟨g, 0, none⟩) l.length c, .int .i64 5, .int .i64 0, .int .i64 0, .int .i64 77] u fun e w' => ∃ v, e = .returned (.tuple #[v, .int .i64 (tnLC l 5 0 0 77)]) ∧ ownR w' u.heap.size 53 4 v (tnLR l 5 0 0 77).length (tnF (tnLR l 5 0 0 77)) ∧ Below u.heap.size u w') := fun u hu => i_TernPut g 0 c l 5 0 0 77 u hu hlc (by omega)
  have CSP : Hid (∀ u : World, IntsAt u (some ⟨g, 0, none⟩) (tnF l) → Calls Try.prog 32 #[.slice (some ⟨g, 0, none⟩) l.length c, .int .i64 5, .int .i64 0, .int .i64 0, .int .i64 77] u fun e w' => ∃ v, e = .returned (.tuple #[v, .int .i64 (tnLC l 5 0 0 77)]) ∧ ownR w' u.heap.size 53 4 v (tnLR l 5 0 0 77).length (tnF (tnLR l 5 0 0 77)) ∧ Below u.heap.size u w') := fun u hu => s_TernPut (some ⟨g, 0, none⟩) c l 5 0 0 77 u hu (by omega)
  have CFl : Hid (∀ u : World, IntsAt u (some ⟨g, 0, none⟩) (tnF l) → Calls Try.prog 36 #[.slice (some ⟨g, 0, none⟩) l.length c, .int .i64 key] u fun e w' => e = .returned (.int .i64 (tnFound l key)) ∧ Below u.heap.size u w') := fun u hu => i_TernFind (some ⟨g, 0, none⟩) c l key u hu (by omega)
  have CSl : Hid (∀ u : World, IntsAt u (some ⟨g, 0, none⟩) (tnF l) → Calls Try.prog 38 #[.slice (some ⟨g, 0, none⟩) l.length c, .int .i64 key] u fun e w' => e = .returned (.int .i64 (tnFound l key)) ∧ Below u.heap.size u w') := fun u hu => s_TernFind (some ⟨g, 0, none⟩) c l key u hu (by omega)
  have hpl := tnPut_len l 5 0 0 77
  have CMS : Hid (∀ (S1 S2 : Option Addr) (c1 c2 : Nat) (u : World), IntsAt u S1 (tnF (tnLR l 5 0 0 77)) → IntsAt u S2 (tnF (tnLR l 5 0 0 77)) → Calls Try.prog 34 #[.slice S1 (tnLR l 5 0 0 77).length c1, .slice S2 (tnLR l 5 0 0 77).length c2] u fun e w' => e = .returned (.bool true) ∧ Below u.heap.size u w') := fun S1 S2 c1 c2 u h1 h2 => l_sameTerns S1 S2 c1 c2 (tnLR l 5 0 0 77) u h1 h2 (by omega)
  have CFm : Hid (∀ (S : Option Addr) (cm : Nat) (u : World), IntsAt u S (tnF (tnLR l 5 0 0 77)) → Calls Try.prog 36 #[.slice S (tnLR l 5 0 0 77).length cm, .int .i64 key] u fun e w' => e = .returned (.int .i64 (tnFound (tnLR l 5 0 0 77) key)) ∧ Below u.heap.size u w') := fun S cm u hu => i_TernFind S cm (tnLR l 5 0 0 77) key u hu (by omega)
  have HA : Hid (tnLC l 5 0 0 77 = 0 → 0 ≤ key → key < 281474976710656 → tnFound (tnLR l 5 0 0 77) key ≠ 0 ∧ (tnFound l key = 0 → tnFound (tnLR l 5 0 0 77) key = 77)) := fun h h0 h1 => tn_all (l := l) (key := key) h (inB_true (by omega) (by omega))
  generalize tnFound (tnLR l 5 0 0 77) key = fm at *
  generalize tnFound l key = fo at *
  generalize tnLC l 5 0 0 77 = pc at *
  generalize tnLR l 5 0 0 77 = pm at *
  have hpc : (pc != pc) = false := by simp
  have hfo : (fo != fo) = false := by simp
  go_wp2_with fail
  go_at_call 36
  refine (CFl.out _ hL.reads.2).mono ?_
  rintro e w2 ⟨rfl, hbq⟩
  replace hL := hL.far hbq
  replace hb := hb.trans (hbq.mono hb.size)
  clear hbq
  go_wp2_with fail
  go_at_call 31
  refine (CIP.out _ hL.reads.2).mono ?_
  rintro e w3 ⟨vM, rfl, hM, hbq⟩
  obtain ⟨TM, cM, rfl⟩ := hM.form
  replace hL := hL.far hbq
  replace hb := hb.trans (hbq.mono hb.size)
  clear hbq
  go_wp2_with fail
  go_at_call 32
  refine (CSP.out _ hL.reads.2).mono ?_
  rintro e w4 ⟨vW, rfl, hW, hbq⟩
  obtain ⟨TW, cW, rfl⟩ := hW.form
  replace hL := hL.far hbq
  replace hM := hM.far hbq
  replace hb := hb.trans (hbq.mono hb.size)
  clear hbq
  go_wp2_with fail
  go_at_call 38
  refine (CSl.out _ hL.reads.2).mono ?_
  rintro e w5 ⟨rfl, hbq⟩
  replace hL := hL.far hbq
  replace hM := hM.far hbq
  replace hW := hW.far hbq
  replace hb := hb.trans (hbq.mono hb.size)
  clear hbq
  go_wp2_with fail
  go_at_call 34
  refine (CMS.out _ _ _ _ _ hM.reads.2 hW.reads.2).mono ?_
  rintro e w6 ⟨rfl, hbq⟩
  replace hL := hL.far hbq
  replace hM := hM.far hbq
  replace hW := hW.far hbq
  replace hb := hb.trans (hbq.mono hb.size)
  clear hbq
  by_cases hk : pc = 0
  · subst hk
    by_cases h0 : key < 0
    · clear HA
      go_wp2_with fail
      go_at_call 38
      refine (CSl.out _ hL.reads.2).mono ?_
      rintro e w7 ⟨rfl, hbq⟩
      replace hL := hL.far hbq
      replace hM := hM.far hbq
      replace hW := hW.far hbq
      replace hb := hb.trans (hbq.mono hb.size)
      clear hbq
      go_wp2_with fail
      go_at_call 34
      refine (CMS.out _ _ _ _ _ hM.reads.2 hW.reads.2).mono ?_
      rintro e w8 ⟨rfl, hbq⟩
      replace hb := hb.trans (hbq.mono hb.size)
      clear hbq
      go_wp2
      go_ret
      exact ⟨rfl, hb⟩
    · by_cases h1 : key < 281474976710656
      · obtain ⟨q1, q2⟩ := HA.out (by trivial) (by omega) h1
        clear HA
        go_wp2_with fail
        go_at_call 36
        refine (CFm.out _ _ _ hM.reads.2).mono ?_
        rintro e w7 ⟨rfl, hbq⟩
        replace hb := hb.trans (hbq.mono hb.size)
        clear hbq
        have q1b : (fm != 0) = true := by simpa using q1
        by_cases hn : fo = 0
        · have q3 := q2 hn
          subst hn q3
          go_wp2
          go_ret
          exact ⟨rfl, hb⟩
        · have hnb : (fo != 0) = true := by simpa using hn
          clear q2
          go_wp2
          go_ret
          exact ⟨rfl, hb⟩
      · clear HA
        go_wp2_with fail
        go_at_call 38
        refine (CSl.out _ hL.reads.2).mono ?_
        rintro e w7 ⟨rfl, hbq⟩
        replace hL := hL.far hbq
        replace hM := hM.far hbq
        replace hW := hW.far hbq
        replace hb := hb.trans (hbq.mono hb.size)
        clear hbq
        go_wp2_with fail
        go_at_call 34
        refine (CMS.out _ _ _ _ _ hM.reads.2 hW.reads.2).mono ?_
        rintro e w8 ⟨rfl, hbq⟩
        replace hb := hb.trans (hbq.mono hb.size)
        clear hbq
        go_wp2
        go_ret
        exact ⟨rfl, hb⟩
  · have hkb : (pc != 0) = true := by simpa using hk
    clear HA
    go_wp2_with fail
    go_at_call 38
    refine (CSl.out _ hL.reads.2).mono ?_
    rintro e w7 ⟨rfl, hbq⟩
    replace hL := hL.far hbq
    replace hM := hM.far hbq
    replace hW := hW.far hbq
    replace hb := hb.trans (hbq.mono hb.size)
    clear hbq
    go_wp2_with fail
    go_at_call 34
    refine (CMS.out _ _ _ _ _ hM.reads.2 hW.reads.2).mono ?_
    rintro e w8 ⟨rfl, hbq⟩
    replace hb := hb.trans (hbq.mono hb.size)
    clear hbq
    go_wp2
    go_ret
    exact ⟨rfl, hb⟩
end Go.Proofs.Ythmkeodakkdfiaa
