/-
  The table of the program at the rule Prefix: where a rule stands, what is put, what is dropped.
-/
import Derived.Test.YtgcingjcneafpaaTabIPrefix
namespace Go.Proofs.Ytgcingjcneafpaa
open Go.RowKit Go.PlainAid
set_option maxRecDepth 100000 in
set_option maxHeartbeats 3200000 in
theorem i_pfPlace (T : Option Addr) (c : Nat) (l : List PfV) (r : PfV) (w : World) (h : IntsAt w T (pfF l)) (hl : l.length ≤ 1099511627776) :
    Calls Try.prog 59 #[.slice T l.length c, .agg (pfL r)] w fun e w' => e = .returned (.tuple #[.int .i64 ((place pfLt l r : Nat) : Int), .bool (there pfLt (⟨0, 0, 0⟩ : PfV) l r)]) ∧ Below w.heap.size w w' := by
  have CA : Hid (∀ (a b : PfV) (u : World), Calls Try.prog 113 #[.agg (pfL a), .agg (pfL b)] u fun e w' => e = .returned (.bool (pfLt a b)) ∧ Below u.heap.size u w') := fun a b u => i_pfAhead a b u
  have HP : Hid (∀ j, j ≤ l.length → (∀ i, i < j → pfLt (pfA l i) r = true) → (j < l.length → pfLt (pfA l j) r = false) → j = place pfLt l r ∧ (decide (j < l.length) && !pfLt r (pfA l j)) = there pfLt (⟨0, 0, 0⟩ : PfV) l r) := fun j h1 h2 h3 => by
    have e := place_eq (lt := pfLt) l r (⟨0, 0, 0⟩ : PfV) j h1 h2 h3
    refine ⟨e.symm, ?_⟩
    unfold there
    rw [e]; rfl
  have hW0 : Below w.heap.size w (w.alloc (.cells (pfL r) 70)) := (Below.refl _ w).alloc (Nat.le_refl _) _
  have hz0 : w.heap.size < (w.alloc (.cells (pfL r) 70)).heap.size := by simp
  have hn0 : (w.alloc (.cells (pfL r) 70)).cell? ⟨w.heap.size, 0, none⟩ = some (.int .i64 r.addr) := by simp [pfL]
  have hn1 : (w.alloc (.cells (pfL r) 70)).cell? ⟨w.heap.size, 1, none⟩ = some (.int .i64 r.bits) := by simp [pfL]
  have hn2 : (w.alloc (.cells (pfL r) 70)).cell? ⟨w.heap.size, 2, none⟩ = some (.int .i64 r.act) := by simp [pfL]
  have hI := h.below hW0
  clear h
  generalize place pfLt l r = pl at *
  generalize there pfLt (⟨0, 0, 0⟩ : PfV) l r = th at *
  simp only [pfL] at hW0 hz0 hn0 hn1 hn2 hI
  have hr1 : pfL r = #[.int .i64 r.addr, .int .i64 r.bits, .int .i64 r.act] := rfl
  rw [hr1]
  go_enter Try.func59, Try.ntmps59
  go_wp2
  generalize hW : w.alloc _ = w0 at *
  clear hW hr1
  go_loopw [6] (fun i wr => ∃ j : Nat, j ≤ l.length ∧ i = .int .i64 (j : Int) ∧ Hid (∀ i, i < j → pfLt (pfA l i) r = true) ∧ Below w0.heap.size w0 wr) (fun i _ => ((l.length : Int) - intOf i).toNat)
  case atStart => exact ⟨0, by omega, rfl, fun i hi => by omega, Below.refl _ _⟩
  case round =>
    obtain ⟨j, hj, rfl, hst, hb0⟩ := hrel
    have hB : Below w.heap.size w wr := hW0.trans (hb0.mono hW0.size)
    have hne := BW.some wr
    have a0 := fun u : BW wr => (u.le.cell (p := ⟨w.heap.size, 0, none⟩) (Nat.lt_of_lt_of_le hz0 hb0.size)).trans ((hb0.cell (p := ⟨w.heap.size, 0, none⟩) hz0).trans hn0)
    have a1 := fun u : BW wr => (u.le.cell (p := ⟨w.heap.size, 1, none⟩) (Nat.lt_of_lt_of_le hz0 hb0.size)).trans ((hb0.cell (p := ⟨w.heap.size, 1, none⟩) hz0).trans hn1)
    have a2 := fun u : BW wr => (u.le.cell (p := ⟨w.heap.size, 2, none⟩) (Nat.lt_of_lt_of_le hz0 hb0.size)).trans ((hb0.cell (p := ⟨w.heap.size, 2, none⟩) hz0).trans hn2)
    by_cases hlt : j < l.length
    · rcases hI.below hb0 with h | ⟨g, off, rfl, hg, hc⟩
      · have := pfF_len l; rw [h] at this; simp at this; omega
      · have hj1 : (j : Int) < (l.length : Int) := by omega
        have hd : decide ((j : Int) < (l.length : Int)) = true := by simp; omega
        have hcs := pf_cells hc j hlt
        clear hc
        have b0 := fun u : BW wr => (u.le.cell (p := ⟨g, off + j * 3, none⟩) hg).trans hcs.1
        have b1 := fun u : BW wr => (u.le.cell (p := ⟨g, off + j * 3 + 1, none⟩) hg).trans hcs.2.1
        have b2 := fun u : BW wr => (u.le.cell (p := ⟨g, off + j * 3 + 2, none⟩) hg).trans hcs.2.2
        have CA1 : Hid (∀ u : World, Calls Try.prog 113 #[.agg (pfL (pfA l j)), .agg (pfL r)] u fun e w' => e = .returned (.bool (pfLt (pfA l j) r)) ∧ Below u.heap.size u w') := fun u => CA.out _ _ u
        have CA2 : Hid (∀ u : World, Calls Try.prog 113 #[.agg (pfL r), .agg (pfL (pfA l j))] u fun e w' => e = .returned (.bool (pfLt r (pfA l j))) ∧ Below u.heap.size u w') := fun u => CA.out _ _ u
        cases hq : pfLt (pfA l j) r
        · rw [hq] at CA1
          obtain ⟨hp1, hp2⟩ := HP.out j hj hst.out (fun _ => hq)
          rw [decide_eq_true hlt, Bool.true_and] at hp2
          subst hp1 hp2
          go_wp2_with fail
          refine wp_region_below (by kernel_rfl) (by kernel_rfl) ?_
          repeat (go_big_quiet_step (first | (go_invoke; go_simp; go_at_call 113; exact Calls.into (CA1.out _))))
          refine wpQuiet_nil ?_
          intro _ hw'
          obtain ⟨u, hw''⟩ := hw'
          subst hw''
          replace hb0 := hb0.trans (u.le.mono hb0.size)
          replace hB := hB.trans (u.le.mono hB.size)
          have hg2 := Nat.lt_of_lt_of_le hg u.le.size
          replace hcs := pf_below u.le hg hcs
          clear a0 a1 a2 b0 b1 b2 hne
          generalize u.u = wr at *
          have hne := BW.some wr
          have a0 := fun u : BW wr => (u.le.cell (p := ⟨w.heap.size, 0, none⟩) (Nat.lt_of_lt_of_le hz0 hb0.size)).trans ((hb0.cell (p := ⟨w.heap.size, 0, none⟩) hz0).trans hn0)
          have a1 := fun u : BW wr => (u.le.cell (p := ⟨w.heap.size, 1, none⟩) (Nat.lt_of_lt_of_le hz0 hb0.size)).trans ((hb0.cell (p := ⟨w.heap.size, 1, none⟩) hz0).trans hn1)
          have a2 := fun u : BW wr => (u.le.cell (p := ⟨w.heap.size, 2, none⟩) (Nat.lt_of_lt_of_le hz0 hb0.size)).trans ((hb0.cell (p := ⟨w.heap.size, 2, none⟩) hz0).trans hn2)
          have b0 := fun u : BW wr => (u.le.cell (p := ⟨g, off + j * 3, none⟩) hg2).trans hcs.1
          have b1 := fun u : BW wr => (u.le.cell (p := ⟨g, off + j * 3 + 1, none⟩) hg2).trans hcs.2.1
          have b2 := fun u : BW wr => (u.le.cell (p := ⟨g, off + j * 3 + 2, none⟩) hg2).trans hcs.2.2
          cases hq2 : pfLt r (pfA l j)
          all_goals
            rw [hq2] at CA2
            go_wp2_with fail
            refine wp_region_below (by kernel_rfl) (by kernel_rfl) ?_
            repeat (go_big_quiet_step (first | (go_invoke; go_simp; go_at_call 113; exact Calls.into (CA2.out _))))
            refine wpQuiet_nil ?_
            intro _ hw'
            obtain ⟨u, hw''⟩ := hw'
            subst hw''
            clear a0 a1 a2 b0 b1 b2 hne
            go_wp2
            go_ret2
            exact ⟨ret_pair rfl (by rw [hq2]; rfl), hB.trans (u.le.mono hB.size)⟩
        · rw [hq] at CA1
          have HR : Hid (∀ i, i < j + 1 → pfLt (pfA l i) r = true) := fun i hi => by
            by_cases e : i = j
            · rw [e]; exact hq
            · exact hst.out i (by omega)
          go_wp2_with fail
          refine wp_region_below (by kernel_rfl) (by kernel_rfl) ?_
          repeat (go_big_quiet_step (first | (go_invoke; go_simp; go_at_call 113; exact Calls.into (CA1.out _))))
          refine wpQuiet_nil ?_
          intro _ hw'
          obtain ⟨u, hw''⟩ := hw'
          subst hw''
          clear a0 a1 a2 b0 b1 b2 hne
          go_wp2
          go_roundw
          case rel => exact ⟨j + 1, by omega, by go_num, HR, hb0.trans (u.le.mono hb0.size)⟩
          case measure => simp [intOf]; omega
    · have hd : decide ((j : Int) < (l.length : Int)) = false := by simp; omega
      have hjn : ¬ ((j : Int) < (l.length : Int)) := by omega
      obtain ⟨hp1, hp2⟩ := HP.out j hj hst.out (fun h => absurd h hlt)
      rw [decide_eq_false hlt, Bool.false_and] at hp2
      subst hp1 hp2
      go_wp2_with fail
      refine wp_region_below (by kernel_rfl) (by kernel_rfl) ?_
      repeat (go_big_quiet_step (fail))
      refine wpQuiet_nil ?_
      intro _ hw'
      obtain ⟨u, hw''⟩ := hw'
      subst hw''
      replace hb0 := hb0.trans (u.le.mono hb0.size)
      replace hB := hB.trans (u.le.mono hB.size)
      clear a0 a1 a2 hne
      generalize u.u = wr at *
      have hne := BW.some wr
      go_wp2_with fail
      refine wp_region_below (by kernel_rfl) (by kernel_rfl) ?_
      repeat (go_big_quiet_step (fail))
      refine wpQuiet_nil ?_
      intro _ hw'
      obtain ⟨u, hw''⟩ := hw'
      subst hw''
      go_wp2
      go_ret2
      exact ⟨rfl, hB.trans (u.le.mono hB.size)⟩

theorem pfF_takeR (l : List PfV) (f : Nat) : pfF (l.take f) = (pfF l).take (f * 3) := by
  by_cases h : f ≤ l.length
  · have e : pfF l = pfF (l.take f) ++ pfF (l.drop f) := by rw [← pfF_app, List.take_append_drop]
    have hl : (pfF (l.take f)).length = f * 3 := by rw [pfF_len, List.length_take]; congr 1; omega
    rw [e, ← hl, List.take_left']; rfl
  · rw [List.take_of_length_le (by omega), List.take_of_length_le (by rw [pfF_len]; omega)]
theorem pfF_dropR (l : List PfV) (f : Nat) : pfF (l.drop f) = (pfF l).drop (f * 3) := by
  by_cases h : f ≤ l.length
  · have e : pfF l = pfF (l.take f) ++ pfF (l.drop f) := by rw [← pfF_app, List.take_append_drop]
    have hl : (pfF (l.take f)).length = f * 3 := by rw [pfF_len, List.length_take]; congr 1; omega
    rw [e, ← hl, List.drop_left']; rfl
  · rw [List.drop_eq_nil_of_le (by omega), List.drop_eq_nil_of_le (by rw [pfF_len]; omega)]; rfl
set_option maxRecDepth 100000 in
set_option maxHeartbeats 1600000 in
theorem i_pfRepl (g off c : Nat) (l : List PfV) (f t : Nat) (U : Option Addr) (m d : Nat) (os : List PfV) (w : World) (h : IntsAt w (some ⟨g, off, none⟩) (pfF l)) (hU : IntsAt w U (pfF os)) (hm : m = os.length) (hUn : U = none → m = 0 ∧ d = 0)
    (hft : f ≤ t) (ht : t ≤ l.length) (hc : l.length ≤ c) (hl : l.length ≤ 1048576) (hos : os.length ≤ 1) :
    Calls Try.prog 60 #[.slice (some ⟨g, off, none⟩) l.length c, .int .i64 (f : Int), .int .i64 (t : Int), .slice U m d] w fun e w' => ∃ v, e = .returned v ∧ ownR w' w.heap.size 70 3 v (replL l f t os).length (pfF (replL l f t os)) ∧ Below w.heap.size w w' := by
  have hlen := pfF_len l
  have hleno := pfF_len os
  have H1 : Hid (IntsAt w (some ⟨g, off, none⟩) (pfF (l.take f))) := by rw [pfF_takeR]; exact ints_take h _
  have hk1 : (pfF (l.take f)).length = f * 3 := by rw [pfF_takeR, List.length_take]; omega
  have hk3 : (pfF (l.drop t)).length = (l.length - t) * 3 := by rw [pfF_dropR, List.length_drop]; omega
  have H3 : Hid (∀ u, Below w.heap.size w u → IntsAt u (some ⟨g, off + t * 3, none⟩) (pfF (l.drop t))) := fun u hu => by rw [pfF_dropR]; exact ints_drop (h.below hu) _
  have HL : Hid (0 + f + m + (l.length - t) = (replL l f t os).length ∧ [] ++ pfF (l.take f) ++ pfF os ++ pfF (l.drop t) = pfF (replL l f t os)) := by
    refine ⟨?_, ?_⟩
    · unfold replL; simp; omega
    · unfold replL; rw [pfF_app, pfF_app, List.nil_append]
  generalize replL l f t os = res at *
  have hfi : (f : Int) ≤ (t : Int) := by omega
  have hti : (t : Int) ≤ (l.length : Int) := by omega
  have hci : (l.length : Int) ≤ (c : Int) := by omega
  by_cases hct : c = t
  all_goals
   go_enter Try.func60, Try.ntmps60
   have hcm : ∀ u, Below w.heap.size w u → IntsAt u U (pfF os) := fun u hu => hU.below hu
   have HCM : Hid (∀ u, Below w.heap.size w u → IntsAt u U (pfF os)) := hcm
   clear hcm hU h
   subst hm
   go_wp2_with (first | (at_builtin; refine wpList_append_recs2 Try.infPrefix Try.underlying67 rfl (.tmp 10) (.tmp 13) rfl w.heap.size _ 0 [] rfl (ownR.nil _ _ _ _) ⟨g, off, none⟩ f _ (pfF (l.take f)) rfl hk1 H1.out (by omega) (Nat.le_refl _) ?_; intro v1 w1 ho1 hb1; have HO1 : Hid (ownR w1 w.heap.size 70 3 v1 (0 + f) ([] ++ pfF (l.take f))) := ho1; clear ho1) | (at_builtin; refine wpList_append_recs Try.infPrefix rfl (.tmp 15) (.tmp 16) rfl w.heap.size _ _ _ rfl HO1.out U os.length d (pfF os) rfl hUn hleno (HCM.out _ hb1) (by omega) hb1.size ?_; intro v2 w2 ho2 hb2; have HO2 : Hid (ownR w2 w.heap.size 70 3 v2 (0 + f + os.length) ([] ++ pfF (l.take f) ++ pfF os)) := ho2; have hB2 := hb1.trans hb2; clear ho2) | (at_builtin; refine wpList_append_recs2 Try.infPrefix Try.underlying67 rfl (.tmp 18) (.tmp 21) rfl w.heap.size _ _ _ rfl HO2.out _ (l.length - t) _ (pfF (l.drop t)) rfl hk3 (by first | exact H3.out _ hB2 | (left; rw [List.drop_eq_nil_of_le (by omega)]; rfl)) (by omega) hB2.size ?_; intro v3 w3 ho3 hb3; have HO3 : Hid (ownR w3 w.heap.size 70 3 v3 (0 + f + os.length + (l.length - t)) ([] ++ pfF (l.take f) ++ pfF os ++ pfF (l.drop t))) := ho3; have hB3 := hB2.trans hb3; clear ho3))
   all_goals
     go_ret
     have ho := HO3.out
     rw [HL.out.1, HL.out.2] at ho
     exact ⟨_, rfl, ho, hB3⟩
end Go.Proofs.Ytgcingjcneafpaa
