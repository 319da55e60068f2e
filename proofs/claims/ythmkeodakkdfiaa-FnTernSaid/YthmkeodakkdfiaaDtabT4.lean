/-
  The law on tables by masks: a rule that is put is found by its value, unless one that stands ahead of it fits; dropped it is not there.
-/
import Derived.Test.YthmkeodakkdfiaaDtabT2
namespace Go.Proofs.Ythmkeodakkdfiaa
open Go.RowKit Go.PlainAid
def fa (m : List TnV) (v act : Int) (j : Nat) : Int := (((m.drop j).find? (fun a => decide (bits .and .i64 v a.mask = a.value))).map (·.act)).getD act
theorem fa_step (m : List TnV) (v act : Int) (k : Nat) (h : k < m.length) : fa m v act k = if bits .and .i64 v (tnA m k).mask = (tnA m k).value then (tnA m k).act else fa m v act (k + 1) := by
  unfold fa
  rw [List.drop_eq_getElem_cons h, List.find?_cons, tnA_eq m k h]
  by_cases hh : bits .and .i64 v m[k].mask = m[k].value
  · rw [decide_eq_true hh, if_pos hh]; rfl
  · rw [decide_eq_false hh, if_neg hh]
theorem fa_end (m : List TnV) (v act : Int) : fa m v act m.length = act := by
  unfold fa; rw [List.drop_length]; rfl
theorem tn_first {l : List TnV} {a0 a1 a2 a3 : Int} (h : tnLC l a0 a1 a2 a3 = 0) : tnFound (tnLR l a0 a1 a2 a3) a0 = fa (tnLR l a0 a1 a2 a3) a0 a3 0 := by
  obtain ⟨t, k0, k1, e, t2⟩ := tnput_ok (l := l) (a0 := a0) (a1 := a1) (a2 := a2) (a3 := a3) h
  rw [e, tnFound_find (putL tnLt ⟨0, 0, 0, 0⟩ l ⟨land a0 a1, a1, a2, a3⟩) a0 t2]
  unfold fa
  rw [List.drop_zero]
  have ef : (fun a : TnV => tnFit a a0) = fun a => decide (bits .and .i64 a0 a.mask = a.value) := by
    funext a; unfold tnFit; rw [k0]; rfl
  rw [ef]
  have hr : (⟨land a0 a1, a1, a2, a3⟩ : TnV) ∈ putL tnLt ⟨0, 0, 0, 0⟩ l ⟨land a0 a1, a1, a2, a3⟩ := by
    rw [put_parts (lt := tnLt) ⟨0, 0, 0, 0⟩ l ⟨land a0 a1, a1, a2, a3⟩]; simp
  generalize putL tnLt ⟨0, 0, 0, 0⟩ l ⟨land a0 a1, a1, a2, a3⟩ = m at *
  cases hf : m.find? (fun a => decide (bits .and .i64 a0 a.mask = a.value)) with
  | some a => rfl
  | none =>
    rw [List.find?_eq_none] at hf
    have := hf _ hr
    exact absurd (show decide (bits .and .i64 a0 a1 = land a0 a1) = true from decide_eq_true rfl) this
theorem tn_drop_eq {l : List TnV} {a0 a1 a2 a3 : Int} (h : tnLC l a0 a1 a2 a3 = 0) : tnLD (tnLR l a0 a1 a2 a3) a0 a1 a2 = tnLD l a0 a1 a2 := by
  obtain ⟨t, k0, k1, e, t2⟩ := tnput_ok (l := l) (a0 := a0) (a1 := a1) (a2 := a2) (a3 := a3) h
  have u3 := ((tnTab_iff l).1 t).2.2
  rw [e]
  unfold tnLD
  generalize hr : (⟨land a0 a1, a1, a2, a3⟩ : TnV) = r at *
  have hne : ∀ a : TnV, ne tnLt a ⟨land a0 a1, a1, a2, 0⟩ = ne tnLt a r := fun a => by rw [← hr]; rfl
  have hrr : ne tnLt r r = false := by unfold ne; rw [tnOrd.irr]; rfl
  have f1 : ∀ a ∈ pP tnLt l r, ne tnLt a r = true := fun a ha => by unfold ne; rw [mem_pP ha]; rfl
  have f2 : ∀ a ∈ pB tnLt ⟨0, 0, 0, 0⟩ l r, ne tnLt a r = true := fun a ha => by unfold ne; rw [mem_pB tnOrd u3 ha]; simp
  have f3 : ∀ a ∈ pM tnLt ⟨0, 0, 0, 0⟩ l r, ne tnLt a r = false := fun a ha => by unfold ne; rw [(mem_pM ha).1, (mem_pM ha).2]; rfl
  have d1 : tnDropR l ⟨land a0 a1, a1, a2, 0⟩ = pP tnLt l r ++ pB tnLt ⟨0, 0, 0, 0⟩ l r := by
    unfold tnDropR
    rw [t, if_pos rfl, ← drop_filter tnOrd l _ ⟨0, 0, 0, 0⟩ (tnSorted t)]
    conv => lhs; rw [parts (lt := tnLt) ⟨0, 0, 0, 0⟩ l r]
    rw [List.filter_append, List.filter_append, List.filter_eq_self.2 (fun a ha => by rw [hne]; exact f1 a ha), List.filter_eq_nil_iff.2 (fun a ha => by rw [hne, f3 a ha]; simp), List.filter_eq_self.2 (fun a ha => by rw [hne]; exact f2 a ha), List.nil_append]
  have d2 : tnDropR (putL tnLt ⟨0, 0, 0, 0⟩ l r) ⟨land a0 a1, a1, a2, 0⟩ = pP tnLt l r ++ pB tnLt ⟨0, 0, 0, 0⟩ l r := by
    unfold tnDropR
    rw [t2, if_pos rfl, ← drop_filter tnOrd (putL tnLt ⟨0, 0, 0, 0⟩ l r) _ ⟨0, 0, 0, 0⟩ (tnSorted t2), put_parts (lt := tnLt) ⟨0, 0, 0, 0⟩ l r]
    rw [List.filter_append, List.filter_append, List.filter_eq_self.2 (fun a ha => by rw [hne]; exact f1 a ha), List.filter_eq_nil_iff.2 (fun a ha => by simp at ha; rw [ha, hne, hrr]; simp), List.filter_eq_self.2 (fun a ha => by rw [hne]; exact f2 a ha), List.nil_append]
  rw [d1, d2]
set_option maxRecDepth 100000 in
set_option maxHeartbeats 12800000 in
theorem walk_FnTern (a : Option Addr) (len cap : Nat) (zs : List Int) (w : World) (w0 : IsRow .u8 w a len cap zs) :
    Calls Try.prog 7 #[.slice a len cap] w fun e w' => e = .returned (.bool true) ∧ Below w.heap.size w w' := by
  have hl := row_len w0
  by_cases hz : 1048576 < len
  · go_enter Try.func7, Try.ntmps7
    go_wp2
    go_ret
    exact ⟨rfl, Below.refl _ _⟩
  have hCo := code_of_row w0 (by omega)
  clear w0
  go_enter Try.func7, Try.ntmps7
  go_wp2_with fail
  refine (big_no _ _ _ _ (by omega)).mono ?_
  rintro e w' ⟨rfl, rfl⟩
  go_wp2_with fail
  refine (d_TernPut _ a len cap _ hCo).mono ?_
  rintro e w1 ⟨g, c, l, a0, a1, a2, a3, rfl, hL, hll, hlc, hb⟩
  clear hCo
  have CIP : Hid (∀ u : World, IntsAt u (some ⟨g, 0, none⟩) (tnF l) → Calls Try.prog 31 #[.slice (some ⟨g, 0, none⟩) l.length c, .int .i64 a0, .int .i64 a1, .int .i64 a2, .int .i64 a3] u fun e w' => ∃ v, e = .returned (.tuple #[v, .int .i64 (tnLC l a0 a1 a2 a3)]) ∧ ownR w' u.heap.size 53 4 v (tnLR l a0 a1 a2 a3).length (tnF (tnLR l a0 a1 a2 a3)) ∧ Below u.heap.size u w') := fun u hu => i_TernPut g 0 c l a0 a1 a2 a3 u hu hlc (by omega)
  have CSP : Hid (∀ u : World, IntsAt u (some ⟨g, 0, none⟩) (tnF l) → Calls Try.prog 32 #[.slice (some ⟨g, 0, none⟩) l.length c, .int .i64 a0, .int .i64 a1, .int .i64 a2, .int .i64 a3] u fun e w' => ∃ v, e = .returned (.tuple #[v, .int .i64 (tnLC l a0 a1 a2 a3)]) ∧ ownR w' u.heap.size 53 4 v (tnLR l a0 a1 a2 a3).length (tnF (tnLR l a0 a1 a2 a3)) ∧ Below u.heap.size u w') := fun u hu => s_TernPut (some ⟨g, 0, none⟩) c l a0 a1 a2 a3 u hu (by omega)
  have CID : Hid (∀ u : World, IntsAt u (some ⟨g, 0, none⟩) (tnF l) → Calls Try.prog 33 #[.slice (some ⟨g, 0, none⟩) l.length c, .int .i64 a0, .int .i64 a1, .int .i64 a2] u fun e w' => ∃ v, e = .returned v ∧ ownR w' u.heap.size 53 4 v (tnLD l a0 a1 a2).length (tnF (tnLD l a0 a1 a2)) ∧ Below u.heap.size u w') := fun u hu => i_TernDrop g 0 c l a0 a1 a2 u hu hlc (by omega)
  have CSD : Hid (∀ u : World, IntsAt u (some ⟨g, 0, none⟩) (tnF l) → Calls Try.prog 35 #[.slice (some ⟨g, 0, none⟩) l.length c, .int .i64 a0, .int .i64 a1, .int .i64 a2] u fun e w' => ∃ v, e = .returned v ∧ ownR w' u.heap.size 53 4 v (tnLD l a0 a1 a2).length (tnF (tnLD l a0 a1 a2)) ∧ Below u.heap.size u w') := fun u hu => s_TernDrop (some ⟨g, 0, none⟩) c l a0 a1 a2 u hu (by omega)
  have hpl := tnPut_len l a0 a1 a2 a3
  have hdl := tnDrop_len l a0 a1 a2
  have CMS : Hid (∀ (S1 S2 : Option Addr) (c1 c2 : Nat) (u : World), IntsAt u S1 (tnF (tnLR l a0 a1 a2 a3)) → IntsAt u S2 (tnF (tnLR l a0 a1 a2 a3)) → Calls Try.prog 34 #[.slice S1 (tnLR l a0 a1 a2 a3).length c1, .slice S2 (tnLR l a0 a1 a2 a3).length c2] u fun e w' => e = .returned (.bool true) ∧ Below u.heap.size u w') := fun S1 S2 c1 c2 u h1 h2 => l_sameTerns S1 S2 c1 c2 (tnLR l a0 a1 a2 a3) u h1 h2 (by omega)
  have CMD : Hid (∀ (S1 S2 : Option Addr) (c1 c2 : Nat) (u : World), IntsAt u S1 (tnF (tnLD l a0 a1 a2)) → IntsAt u S2 (tnF (tnLD l a0 a1 a2)) → Calls Try.prog 34 #[.slice S1 (tnLD l a0 a1 a2).length c1, .slice S2 (tnLD l a0 a1 a2).length c2] u fun e w' => e = .returned (.bool true) ∧ Below u.heap.size u w') := fun S1 S2 c1 c2 u h1 h2 => l_sameTerns S1 S2 c1 c2 (tnLD l a0 a1 a2) u h1 h2 (by omega)
  have CFm : Hid (tnLC l a0 a1 a2 a3 = 0 → ∀ (S : Option Addr) (cm : Nat) (u : World), IntsAt u S (tnF (tnLR l a0 a1 a2 a3)) → Calls Try.prog 36 #[.slice S (tnLR l a0 a1 a2 a3).length cm, .int .i64 a0] u fun e w' => e = .returned (.int .i64 (fa (tnLR l a0 a1 a2 a3) a0 a3 0)) ∧ Below u.heap.size u w') := fun h S cm u hu => by
    have := i_TernFind S cm (tnLR l a0 a1 a2 a3) a0 u hu (by omega)
    rw [tn_first (l := l) (a0 := a0) (a1 := a1) (a2 := a2) (a3 := a3) h] at this; exact this
  have CDm : Hid (tnLC l a0 a1 a2 a3 = 0 → ∀ (gm cm : Nat) (u : World), (tnLR l a0 a1 a2 a3).length ≤ cm → IntsAt u (some ⟨gm, 0, none⟩) (tnF (tnLR l a0 a1 a2 a3)) → Calls Try.prog 33 #[.slice (some ⟨gm, 0, none⟩) (tnLR l a0 a1 a2 a3).length cm, .int .i64 a0, .int .i64 a1, .int .i64 a2] u fun e w' => ∃ v, e = .returned v ∧ ownR w' u.heap.size 53 4 v (tnLD l a0 a1 a2).length (tnF (tnLD l a0 a1 a2)) ∧ Below u.heap.size u w') := fun h gm cm u hc hu => by
    have := i_TernDrop gm 0 cm (tnLR l a0 a1 a2 a3) a0 a1 a2 u hu hc (by omega)
    rw [tn_drop_eq (l := l) (a0 := a0) (a1 := a1) (a2 := a2) (a3 := a3) h] at this; exact this
  have HP1 : Hid (tnLC l a0 a1 a2 a3 = 0 → 1 ≤ (tnLR l a0 a1 a2 a3).length) := fun h => tnPut_pos l a0 a1 a2 a3 h
  generalize tnLC l a0 a1 a2 a3 = pc at *
  generalize tnLR l a0 a1 a2 a3 = pm at *
  generalize tnLD l a0 a1 a2 = pd at *
  have hpc : (pc != pc) = false := by simp
  go_wp2_with fail
  go_at_call 31
  refine (CIP.out _ hL.reads.2).mono ?_
  rintro e w2 ⟨vM, rfl, hM, hbq⟩
  have hMs := hM.shape
  replace hL := hL.far hbq
  replace hb := hb.trans (hbq.mono hb.size)
  clear hbq
  go_wp2_with fail
  go_at_call 32
  refine (CSP.out _ hL.reads.2).mono ?_
  rintro e w3 ⟨vW, rfl, hW, hbq⟩
  obtain ⟨TW, cW, rfl⟩ := hW.form
  replace hL := hL.far hbq
  replace hM := hM.far hbq
  replace hb := hb.trans (hbq.mono hb.size)
  clear hbq
  go_wp2_with fail
  go_at_call 33
  refine (CID.out _ hL.reads.2).mono ?_
  rintro e w4 ⟨vD, rfl, hD, hbq⟩
  obtain ⟨TD, cD, rfl⟩ := hD.form
  replace hL := hL.far hbq
  replace hM := hM.far hbq
  replace hW := hW.far hbq
  replace hb := hb.trans (hbq.mono hb.size)
  clear hbq
  by_cases hk : pc = 0
  · subst hk
    have hp1 := HP1.out (by trivial)
    rcases hMs with ⟨_, hn, _⟩ | ⟨gm, cm, rfl, _, _, hcm, _⟩
    · omega
    go_wp2_with fail
    go_at_call 34
    refine (CMS.out _ _ _ _ _ hM.reads.2 hW.reads.2).mono ?_
    rintro e w5 ⟨rfl, hbq⟩
    replace hL := hL.far hbq
    replace hM := hM.far hbq
    replace hW := hW.far hbq
    replace hD := hD.far hbq
    replace hb := hb.trans (hbq.mono hb.size)
    clear hbq
    go_wp2_with fail
    go_at_call 35
    refine (CSD.out _ hL.reads.2).mono ?_
    rintro e w6 ⟨vE5, rfl, hE5, hbq⟩
    obtain ⟨TE5, cE5, rfl⟩ := hE5.form
    replace hL := hL.far hbq
    replace hM := hM.far hbq
    replace hW := hW.far hbq
    replace hD := hD.far hbq
    replace hb := hb.trans (hbq.mono hb.size)
    clear hbq
    go_wp2_with fail
    go_at_call 34
    refine (CMD.out _ _ _ _ _ hD.reads.2 hE5.reads.2).mono ?_
    rintro e w7 ⟨rfl, hbq⟩
    clear hE5
    replace hL := hL.far hbq
    replace hM := hM.far hbq
    replace hW := hW.far hbq
    replace hD := hD.far hbq
    replace hb := hb.trans (hbq.mono hb.size)
    clear hbq
    have HF0 : Hid (∀ k, k < pm.length → fa pm a0 a3 k = if bits .and .i64 a0 (tnA pm k).mask = (tnA pm k).value then (tnA pm k).act else fa pm a0 a3 (k + 1)) := fun k hk => fa_step pm a0 a3 k hk
    have HFe : Hid (fa pm a0 a3 pm.length = a3) := fa_end pm a0 a3
    clear CIP CSP CID CSD CMS HP1 hL hW
    go_wp2
    go_loopw [14, 13] (fun i n wr => ∃ j : Nat, j ≤ pm.length ∧ i = .int .i64 ((j : Int) - 1) ∧ n = .int .i64 (fa pm a0 a3 j) ∧ ownR wr w1.heap.size 53 4 (.slice (some ⟨gm, 0, none⟩) pm.length cm) pm.length (tnF pm) ∧ ownR wr w3.heap.size 53 4 (.slice TD pd.length cD) pd.length (tnF pd) ∧ Below w'.heap.size w' wr) (fun i _ _ => (intOf i + 1).toNat)
    case atStart => exact ⟨pm.length, Nat.le_refl _, rfl, by rw [HFe.out], hM, hD, hb⟩
    case round =>
      clear hM hD hb
      obtain ⟨j, hj, rfl, rfl, hM, hD, hb⟩ := hrel
      by_cases hlt : 0 < j
      · obtain ⟨m, rfl⟩ : ∃ m, j = m + 1 := ⟨j - 1, by omega⟩
        have hm : m < pm.length := by omega
        have em : ((m + 1 : Nat) : Int) - 1 = (m : Int) := by omega
        rw [em]
        have hj1 : (m : Int) < (pm.length : Int) := by omega
        have hst := HF0.out m hm
        rcases hM.reads.2 with hI | ⟨g', off', hg1, hg, hcs⟩
        · have := tnF_len pm; rw [hI] at this; simp at this; omega
        simp only [Option.some.injEq, Addr.mk.injEq, and_true] at hg1
        obtain ⟨rfl, rfl⟩ := hg1
        have hq := tn_cells hcs m hm
        simp only [Nat.zero_add] at hq
        obtain ⟨c0, c1, c2, c3⟩ := hq
        clear hcs
        by_cases hq : bits .and .i64 a0 (tnA pm m).mask = (tnA pm m).value
        · rw [if_pos hq] at hst
          have HS : Hid (fa pm a0 a3 m = (tnA pm m).act) := hst
          have hqb : (bits .and .i64 a0 (tnA pm m).mask == (tnA pm m).value) = true := by simpa using hq
          clear hst hq
          go_wp2_with fail
          go_quiet (fail)
          go_wp2
          go_roundw
          case rel => exact ⟨m, by omega, by go_num, by rw [HS.out], hM, hD, hb.trans ⟨rfl, rfl, rfl, Nat.le_refl _, fun _ _ => rfl⟩⟩
          case measure => simp [intOf]
        · rw [if_neg hq] at hst
          have HS : Hid (fa pm a0 a3 m = fa pm a0 a3 (m + 1)) := hst
          have hqb : (bits .and .i64 a0 (tnA pm m).mask == (tnA pm m).value) = false := by simpa using hq
          clear hst hq
          go_wp2_with fail
          go_quiet (fail)
          go_wp2
          go_roundw
          case rel => exact ⟨m, by omega, by go_num, by rw [HS.out], hM, hD, hb.trans ⟨rfl, rfl, rfl, Nat.le_refl _, fun _ _ => rfl⟩⟩
          case measure => simp [intOf]
      · have hj0 : j = 0 := by omega
        subst hj0
        generalize fa pm a0 a3 0 = fv at *
        go_wp2_with fail
        go_at_call 36
        refine (CFm.out (by trivial) _ _ _ hM.reads.2).mono ?_
        rintro e w20 ⟨rfl, hbq⟩
        replace hM := hM.far hbq
        replace hD := hD.far hbq
        replace hb := hb.trans (hbq.mono hb.size)
        clear hbq
        go_wp2_with fail
        go_at_call 33
        refine (CDm.out (by trivial) _ _ _ hcm hM.reads.2).mono ?_
        rintro e w21 ⟨vZ, rfl, hZ, hbq⟩
        obtain ⟨TZ, cZ, rfl⟩ := hZ.form
        replace hD := hD.far hbq
        replace hb := hb.trans (hbq.mono hb.size)
        clear hbq
        go_wp2_with fail
        go_at_call 34
        refine (CMD.out _ _ _ _ _ hZ.reads.2 hD.reads.2).mono ?_
        rintro e w22 ⟨rfl, hbq⟩
        replace hb := hb.trans (hbq.mono hb.size)
        clear hbq
        go_wp2
        go_ret
        exact ⟨rfl, hb⟩
  · have hkb : (pc != 0) = true := by simpa using hk
    obtain ⟨TM, cM, rfl⟩ := hM.form
    go_wp2_with fail
    go_at_call 34
    refine (CMS.out _ _ _ _ _ hM.reads.2 hW.reads.2).mono ?_
    rintro e w5 ⟨rfl, hbq⟩
    replace hL := hL.far hbq
    replace hM := hM.far hbq
    replace hW := hW.far hbq
    replace hD := hD.far hbq
    replace hb := hb.trans (hbq.mono hb.size)
    clear hbq
    go_wp2_with fail
    go_at_call 35
    refine (CSD.out _ hL.reads.2).mono ?_
    rintro e w6 ⟨vE5, rfl, hE5, hbq⟩
    obtain ⟨TE5, cE5, rfl⟩ := hE5.form
    replace hL := hL.far hbq
    replace hM := hM.far hbq
    replace hW := hW.far hbq
    replace hD := hD.far hbq
    replace hb := hb.trans (hbq.mono hb.size)
    clear hbq
    go_wp2_with fail
    go_at_call 34
    refine (CMD.out _ _ _ _ _ hD.reads.2 hE5.reads.2).mono ?_
    rintro e w7 ⟨rfl, hbq⟩
    clear hE5
    replace hL := hL.far hbq
    replace hM := hM.far hbq
    replace hW := hW.far hbq
    replace hD := hD.far hbq
    replace hb := hb.trans (hbq.mono hb.size)
    clear hbq
    go_wp2_with fail
    go_at_call 34
    refine (CMS.out _ _ _ _ _ hM.reads.2 hW.reads.2).mono ?_
    rintro e w8 ⟨rfl, hbq⟩
    replace hL := hL.far hbq
    replace hM := hM.far hbq
    replace hW := hW.far hbq
    replace hD := hD.far hbq
    replace hb := hb.trans (hbq.mono hb.size)
    clear hbq
    go_wp2_with fail
    go_at_call 35
    refine (CSD.out _ hL.reads.2).mono ?_
    rintro e w9 ⟨vE8, rfl, hE8, hbq⟩
    obtain ⟨TE8, cE8, rfl⟩ := hE8.form
    replace hL := hL.far hbq
    replace hM := hM.far hbq
    replace hW := hW.far hbq
    replace hD := hD.far hbq
    replace hb := hb.trans (hbq.mono hb.size)
    clear hbq
    go_wp2_with fail
    go_at_call 34
    refine (CMD.out _ _ _ _ _ hD.reads.2 hE8.reads.2).mono ?_
    rintro e w10 ⟨rfl, hbq⟩
    clear hE8
    replace hb := hb.trans (hbq.mono hb.size)
    clear hbq
    go_wp2
    go_ret
    exact ⟨rfl, hb⟩
end Go.Proofs.Ythmkeodakkdfiaa
