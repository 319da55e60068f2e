/-
  The walk of the law FnJoined.
-/
import Derived.Test.YtgfpoohjbgdcpaaDtl2
import Derived.Test.YtgfpoohjbgdcpaaJnd3
import Derived.Test.YtgfpoohjbgdcpaaTls3
import Derived.Test.YtgfpoohjbgdcpaaTls4
namespace Go.Proofs.Ytgfpoohjbgdcpaa
open Go.RowKit Go.PlainAid
theorem d_Joined (B : Nat) (C : Option Addr) (len cap : Nat) (w : World) (h : Code w B C len) :
    Calls Try.prog 24 #[.slice C len cap] w fun e w' => ∃ (v : Value) (l : List IpV), e = .returned v ∧ ownV w' w.heap.size 28 11 v l.length (iqF l) ∧ l.length + iqTot l ≤ 1048576 ∧ Below w.heap.size w w' := by
  go_enter Try.func24, Try.ntmps24
  go_wp2_with fail
  refine (d_Tiles B C len cap _ h).mono ?_
  rintro e w1 ⟨v, l, rfl, hv, hn, hB⟩
  obtain ⟨T, c, rfl⟩ := hv.form
  go_wp2
  refine bodyPost_ret (v := .slice T l.length c) ?_ rfl ⟨_, l, rfl, hv, hn, hB⟩
  simp [results, Try.results24, go_sem]
/-- what one knows of a list that is joined -/
theorem jn_facts {l : List IpV} (h : jnOk l = true) : 0 < l.length ∧ ipOk (jnV l) = true ∧ (jnV l).data.size = (jnData l).length ∧ (jnV l).off = (iqA l 0).off ∧ (jnV l).mf = (iqA l (l.length - 1)).mf ∧ (jnV l).opts = (iqA l 0).opts := by
  have e : jnV l = jnW l := by unfold jnV; rw [if_pos h]
  unfold jnOk at h
  rw [Bool.and_eq_true] at h
  have hp : 0 < l.length := by
    have := h.1
    unfold tlOk at this
    rw [Bool.and_eq_true, decide_eq_true_iff] at this
    exact this.2
  rw [e]
  exact ⟨hp, h.2, str_size _, rfl, rfl, rfl⟩
set_option maxRecDepth 100000 in
set_option maxHeartbeats 12800000 in
theorem walk_FnJoined (C : Option Addr) (len cap : Nat) (zs : List Int) (w : World) (w0 : IsRow .u8 w C len cap zs) :
    Calls Try.prog 7 #[.slice C len cap] w fun e w' => e = .returned (.bool true) ∧ Below w.heap.size w w' := by
  have hl := row_len w0
  by_cases hz : 1048576 < len
  · go_enter Try.func7, Try.ntmps7
    go_wp2
    go_ret
    exact ⟨rfl, Below.refl _ _⟩
  · have hC := code_of_row w0 (by omega)
    clear w0
    go_enter Try.func7, Try.ntmps7
    go_wp2_with fail
    refine (big_no _ _ _ _ (by omega)).mono ?_
    rintro e w' ⟨rfl, hw'⟩
    rw [hw']
    clear hw' w'
    go_wp2_with fail
    refine (d_Joined _ C len cap _ hC).mono ?_
    rintro e w1 ⟨vL, l, rfl, hv, hn, hB⟩
    obtain ⟨T, c, rfl⟩ := hv.form
    replace hv := hv.reads.2
    have hshort : iqShort l := iqShort_of (by omega)
    have CI : Hid (∀ u : World, CellsAt u T (iqF l) → Calls Try.prog 20 #[.slice T l.length c] u fun e w' => e = .returned (.tuple #[.agg (ipL (jnV l)), .bool (jnOk l)]) ∧ Below u.heap.size u w') := fun u hu => i_Joined T c l u hu hn hshort
    have CS : Hid (∀ u : World, CellsAt u T (iqF l) → Calls Try.prog 25 #[.slice T l.length c] u fun e w' => e = .returned (.tuple #[.agg (ipL (jnV l)), .bool (jnOk l)]) ∧ Below u.heap.size u w') := fun u hu => s_Joined T c l u hu hn hshort
    have CT : Hid (∀ u : World, CellsAt u T (iqF l) → Calls Try.prog 21 #[.slice T l.length c] u fun e w' => e = .returned (.bool (tlOk l)) ∧ Below u.heap.size u w') := fun u hu => i_Tiles T c l u hu (by omega) hshort
    have CU : Hid (∀ u : World, CellsAt u T (iqF l) → Calls Try.prog 26 #[.slice T l.length c] u fun e w' => e = .returned (.bool (tlOk l)) ∧ Below u.heap.size u w') := fun u hu => s_Tiles T c l u hu (by omega) hshort
    have HJ : Hid (jnOk l = true → _) := jn_facts
    have hNE := fun u : World => ipNeqS (jnV l) u
    have hEQ := fun u : World => ipEqlS (jnV l) u
    have hgd := Try.ipGuard
    generalize jnV l = q at *
    generalize jnOk l = ok at *
    generalize tlOk l = tl at *
    have hok : (ok != ok) = false := by simp
    have hok2 : (ok == ok) = true := by simp
    have htl : (tl != tl) = false := by simp
    have htl2 : (tl == tl) = true := by simp
    simp only [ipL] at CI CS hNE hEQ
    go_wp2_with fail
    refine (CI.out _ hv).mono ?_
    rintro e w2 ⟨rfl, hb⟩
    replace hv := hv.below hb; replace hB := hB.trans (hb.mono hB.size)
    have hP := Bx.new w2 (ipL q) 28
    have hal := (Below.refl w2.heap.size w2).alloc (Nat.le_refl _) (.cells (ipL q) 28)
    replace hv := hv.below hal; replace hB := hB.trans (hal.mono hB.size)
    simp only [ipL] at hP hv hB
    clear hb hal CI
    go_wp2_with fail
    refine (CS.out _ hv).mono ?_
    rintro e w3 ⟨rfl, hb⟩
    replace hv := hv.below hb; replace hB := hB.trans (hb.mono hB.size); replace hP := hP.below hb
    have hW := Bx.new w3 (ipL q) 28
    have hal := (Below.refl w3.heap.size w3).alloc (Nat.le_refl _) (.cells (ipL q) 28)
    replace hv := hv.below hal; replace hB := hB.trans (hal.mono hB.size); replace hP := hP.below hal
    simp only [ipL] at hP hW hv hB
    clear hb hal CS
    have p0 := hP.2 0 _ rfl; have p1 := hP.2 1 _ rfl; have p2 := hP.2 2 _ rfl; have p3 := hP.2 3 _ rfl; have p4 := hP.2 4 _ rfl; have p5 := hP.2 5 _ rfl; have p6 := hP.2 6 _ rfl; have p7 := hP.2 7 _ rfl; have p8 := hP.2 8 _ rfl; have p9 := hP.2 9 _ rfl; have p10 := hP.2 10 _ rfl
    have q0 := hW.2 0 _ rfl; have q1 := hW.2 1 _ rfl; have q2 := hW.2 2 _ rfl; have q3 := hW.2 3 _ rfl; have q4 := hW.2 4 _ rfl; have q5 := hW.2 5 _ rfl; have q6 := hW.2 6 _ rfl; have q7 := hW.2 7 _ rfl; have q8 := hW.2 8 _ rfl; have q9 := hW.2 9 _ rfl; have q10 := hW.2 10 _ rfl
    go_wp2_with fail
    refine (CT.out _ hv).mono ?_
    rintro e w4 ⟨rfl, hb⟩
    replace hv := hv.below hb; replace hB := hB.trans (hb.mono hB.size); replace hP := hP.below hb; replace hW := hW.below hb
    clear hb p0 p1 p2 p3 p4 p5 p6 p7 p8 p9 p10 q0 q1 q2 q3 q4 q5 q6 q7 q8 q9 q10
    go_wp2_with fail
    refine (CU.out _ hv).mono ?_
    rintro e w5 ⟨rfl, hb⟩
    replace hv := hv.below hb; replace hB := hB.trans (hb.mono hB.size); replace hP := hP.below hb; replace hW := hW.below hb
    clear hb
    cases hjo : ok
    case false =>
      rw [hjo] at hok hok2
      clear HJ hjo
      have p0 := hP.2 0 _ rfl; have p1 := hP.2 1 _ rfl; have p2 := hP.2 2 _ rfl; have p3 := hP.2 3 _ rfl; have p4 := hP.2 4 _ rfl; have p5 := hP.2 5 _ rfl; have p6 := hP.2 6 _ rfl; have p7 := hP.2 7 _ rfl; have p8 := hP.2 8 _ rfl; have p9 := hP.2 9 _ rfl; have p10 := hP.2 10 _ rfl
      have q0 := hW.2 0 _ rfl; have q1 := hW.2 1 _ rfl; have q2 := hW.2 2 _ rfl; have q3 := hW.2 3 _ rfl; have q4 := hW.2 4 _ rfl; have q5 := hW.2 5 _ rfl; have q6 := hW.2 6 _ rfl; have q7 := hW.2 7 _ rfl; have q8 := hW.2 8 _ rfl; have q9 := hW.2 9 _ rfl; have q10 := hW.2 10 _ rfl
      go_wp2_with fail
      refine (CT.out _ hv).mono ?_
      rintro e w6 ⟨rfl, hb⟩
      replace hv := hv.below hb; replace hB := hB.trans (hb.mono hB.size)
      clear hb p0 p1 p2 p3 p4 p5 p6 p7 p8 p9 p10 q0 q1 q2 q3 q4 q5 q6 q7 q8 q9 q10
      go_wp2_with fail
      refine (CU.out _ hv).mono ?_
      rintro e w7 ⟨rfl, hb⟩
      replace hB := hB.trans (hb.mono hB.size)
      go_wp2
      go_ret
      exact ⟨rfl, hB⟩
    case true =>
      obtain ⟨hpos, hqo, hqd, hqf, hqm, hqp⟩ := HJ.out hjo
      have HDT : Hid (∀ j, j < l.length → jnData (l.take (j + 1)) = jnData (l.take j) ++ bl (iqA l j).data) := fun j hj => jnData_take l j hj
      have HDL : Hid (∀ j, (jnData (l.take j)).length ≤ (jnData l).length) := fun j => jnData_le l j
      have hdz : (jnData l).length ≤ 65535 := by rw [← hqd]; have := ((ipOk_iff q).1 hqo).len; omega
      have hqo40 := ((ipOk_iff q).1 hqo).opts.1
      have CK : Hid (∀ u : World, Calls Try.prog 19 #[.agg (ipL q)] u fun e w' => e = .returned (.bool true) ∧ Below u.heap.size u w') := fun u => by
        have := i_IpOk q u (by omega) (by omega)
        rw [hqo] at this
        exact this
      simp only [ipL] at CK
      have HQ : Hid (q.data.size = (jnData l).length ∧ q.off = (iqA l 0).off ∧ q.mf = (iqA l (l.length - 1)).mf ∧ q.opts = (iqA l 0).opts) := ⟨hqd, hqf, hqm, hqp⟩
      rw [hjo] at hok hok2
      clear HJ hjo hqd hqf hqm hqp hqo CT CU hNE hEQ
      have hlw := hB.size
      go_wp2_with fail
      go_loopw [8, 9] (fun s i wr => ∃ j : Nat, j ≤ l.length ∧ s = .int .i64 ((jnData (l.take j)).length : Int) ∧ i = .int .i64 (j : Int) ∧ Below w5.heap.size w5 wr) (fun _ i _ => ((l.length : Int) - intOf i).toNat)
      case atStart => exact ⟨0, by omega, by simp [jnData], rfl, Below.refl _ _⟩
      case round =>
        obtain ⟨j, hj, rfl, rfl, hb⟩ := hrel
        rcases hv.below hb with h | ⟨g, off, rfl, hg, hc⟩
        · have := iqF_len l; rw [h] at this; simp at this; omega
        · by_cases hlt : j < l.length
          · have hj1 : (j : Int) < (l.length : Int) := by omega
            have hcs := iq_cells hc j hlt
            have k10 := hcs.2.2.2.2.2.2.2.2.2.2
            have HN : Hid (((jnData (l.take j)).length : Int) + ((iqA l j).data.size : Int) = ((jnData (l.take (j + 1))).length : Int)) := by show _ = _; rw [HDT.out j hlt, List.length_append, bl_length]; omega
            have hle1 := HDL.out j
            have hle2 := HDL.out (j + 1)
            have hle3 : (iqA l j).data.size ≤ 65535 := by have := HN.out; omega
            clear hcs hc HDT HDL
            generalize (jnData (l.take j)).length = s0 at *
            obtain ⟨s1, hs1⟩ : ∃ s1, Hid ((jnData (l.take (j + 1))).length = s1) := ⟨_, rfl⟩
            rw [hs1.out] at HN hle2
            generalize (iqA l j).data = d at *
            go_wp2
            go_roundw
            case rel => exact ⟨j + 1, by omega, by rw [hs1.out, ← HN.out], by go_num, hb⟩
            case measure => simp [intOf]; omega
          · have hjj : j = l.length := by omega
            subst hjj
            have hj1 : ¬ (l.length : Int) < (l.length : Int) := by omega
            have hc0 := iq_cells hc 0 hpos
            obtain ⟨m, hm⟩ : ∃ m, m = l.length - 1 := ⟨_, rfl⟩
            have hcm := iq_cells hc m (by omega)
            have hmi : (l.length : Int) - 1 = (m : Int) := by omega
            have hml : (m : Int) < (l.length : Int) := by omega
            have hwm : IntKind.i64.wrap ((l.length : Int) - 1) = (m : Int) := (wraps_i64 _ (by omega) (by omega)).trans hmi
            have hm0 : (0 : Int) ≤ (m : Int) := by omega
            have h0l : (0 : Int) < (l.length : Int) := by omega
            obtain ⟨e1, e2, e3, e4⟩ := HQ.out
            rw [← hm] at e3
            have HS : Hid ((jnData (l.take l.length)).length = q.data.size) := by show _ = _; rw [List.take_length, e1]
            have g4 := hc0.2.2.2.2.1
            have g9 := hc0.2.2.2.2.2.2.2.2.2.1
            have g3 := hcm.2.2.2.1
            rw [← e2] at g4
            rw [← e4] at g9
            rw [← e3] at g3
            simp only [Nat.zero_mul, Nat.add_zero] at g4 g9
            rw [HS.out]
            replace hP := hP.below hb
            replace hB := hB.trans (hb.mono hlw)
            have hw64 : wrap64 (m : Int) = (m : Int) := wrap_small (by omega) (by omega)
            clear hc hc0 hcm e1 e2 e3 e4 HS HQ HDT HDL hb hm hdz hv hshort hn hpos hW
            go_wp2_with fail
            have hne2 := BW.some wr
            have y0 := fun u : BW wr => (hP.ofBW u).2 0 _ rfl; have y1 := fun u : BW wr => (hP.ofBW u).2 1 _ rfl; have y2 := fun u : BW wr => (hP.ofBW u).2 2 _ rfl; have y3 := fun u : BW wr => (hP.ofBW u).2 3 _ rfl; have y4 := fun u : BW wr => (hP.ofBW u).2 4 _ rfl; have y5 := fun u : BW wr => (hP.ofBW u).2 5 _ rfl; have y6 := fun u : BW wr => (hP.ofBW u).2 6 _ rfl; have y7 := fun u : BW wr => (hP.ofBW u).2 7 _ rfl; have y8 := fun u : BW wr => (hP.ofBW u).2 8 _ rfl; have y9 := fun u : BW wr => (hP.ofBW u).2 9 _ rfl; have y10 := fun u : BW wr => (hP.ofBW u).2 10 _ rfl
            have z4 := fun u : BW wr => (u.le.cell (p := ⟨g, off + 4, none⟩) hg).trans g4
            have z9 := fun u : BW wr => (u.le.cell (p := ⟨g, off + 9, none⟩) hg).trans g9
            have z3 := fun u : BW wr => (u.le.cell (p := ⟨g, off + m * 11 + 3, none⟩) hg).trans g3
            refine wp_region_below (by kernel_rfl) (by kernel_rfl) ?_
            repeat (go_big_quiet_step (first | (go_at_call 19; exact Calls.into (CK.out _))))
            refine wpQuiet_nil ?_
            intro _ hw'
            obtain ⟨u, hw''⟩ := hw'
            subst hw''
            clear hne2 y0 y1 y2 y3 y4 y5 y6 y7 y8 y9 y10 z4 z9 z3
            go_wp2
            go_ret
            exact ⟨rfl, hB.trans (u.le.mono hB.size)⟩
end Go.Proofs.Ytgfpoohjbgdcpaa
