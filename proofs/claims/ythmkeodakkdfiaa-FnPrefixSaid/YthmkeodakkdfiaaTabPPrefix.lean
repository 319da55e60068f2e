/-
  What the program and the model drop from a table by the first bits of an address.
-/
import Derived.Test.YthmkeodakkdfiaaTabKPrefix
import Derived.Test.YthmkeodakkdfiaaTabSPrefix
namespace Go.Proofs.Ythmkeodakkdfiaa
open Go.RowKit Go.PlainAid
def pfR (a0 a1 a2 : Int) : PfV := ⟨if addrB a0 && inB a1 0 32 then top a0 a1 else a0, a1, a2⟩
def pfLD (l : List PfV) (a0 a1 : Int) : List PfV := pfDropR l (pfR a0 a1 0)
theorem pfDrop_len (l : List PfV) (a0 a1 : Int) : (pfLD l a0 a1).length ≤ l.length := by
  unfold pfLD pfDropR; split
  · exact dropL_le _ _ _
  · simp
set_option maxRecDepth 100000 in
set_option maxHeartbeats 800000 in
theorem i_PrefixDrop (g off c : Nat) (l : List PfV) (a0 a1 : Int) (w : World) (h : IntsAt w (some ⟨g, off, none⟩) (pfF l)) (hc : l.length ≤ c) (hl : l.length ≤ 1048576) :
    Calls Try.prog 24 #[.slice (some ⟨g, off, none⟩) l.length c, .int .i64 a0, .int .i64 a1] w fun e w' => ∃ v, e = .returned v ∧ ownR w' w.heap.size 41 3 v (pfLD l a0 a1).length (pfF (pfLD l a0 a1)) ∧ Below w.heap.size w w' := by
  have CP : Hid (∀ u : World, Calls Try.prog 55 #[.int .i64 a0, .int .i64 a1, .int .i64 0] u fun e w' => e = .returned (.agg (pfL (pfR a0 a1 0))) ∧ Below u.heap.size u w') := fun u => i_prefixOf a0 a1 0 u
  have C : Hid (∀ u : World, Below w.heap.size w u → Calls Try.prog 61 #[.slice (some ⟨g, off, none⟩) l.length c, .agg (pfL (pfR a0 a1 0))] u fun e w' => ∃ v, e = .returned v ∧ ownR w' u.heap.size 41 3 v (pfLD l a0 a1).length (pfF (pfLD l a0 a1)) ∧ Below u.heap.size u w') := by
    intro u hu; exact i_pfDrop g off c l _ u (h.below hu) hc hl
  generalize pfLD l a0 a1 = pr at *
  go_enter Try.func24, Try.ntmps24
  go_wp2_with fail
  go_at_call 55
  refine (CP.out _).mono ?_
  rintro e w1 ⟨rfl, hb1⟩
  go_wp2_with fail
  go_at_call 61
  refine (C.out _ hb1).mono ?_
  rintro e w2 ⟨v, rfl, ho, hb⟩
  go_wp2
  go_ret
  exact ⟨_, rfl, ho.mono hb1.size, hb1.trans (hb.mono hb1.size)⟩
theorem pfSorted {l : List PfV} (h : pfTab l = true) : ∀ i, i + 1 < l.length → pfLt (l.getD i ⟨0, 0, 0⟩) (l.getD (i + 1) ⟨0, 0, 0⟩) = true := fun _ hi => tblB_lt h hi
def pfKeep (rt : Bool) (t a1 : Int) (a : PfV) : Bool := !rt || decide (¬ (a.bits = a1 ∧ a.addr = t))
theorem pfLD_eq (l : List PfV) (a0 a1 : Int) (ht : pfTab l = true) : pfLD l a0 a1 = l.filter (pfKeep (inB a1 0 32 && addrB a0) (top a0 a1) a1) := by
  unfold pfLD pfDropR
  rw [ht, if_pos rfl, ← drop_filter pfOrd l _ ⟨0, 0, 0⟩ (pfSorted ht)]
  refine List.filter_congr fun a ha => ?_
  obtain ⟨i, hi, rfl⟩ := List.getElem_of_mem ha
  have hok : pfOk l[i] = true := by have := tblB_ok ht hi; rw [pfA_eq l i hi] at this; exact this
  generalize l[i] = b at *
  obtain ⟨x, y, z⟩ := b
  unfold pfOk at hok
  simp only [Bool.and_eq_true, decide_eq_true_eq] at hok
  obtain ⟨⟨⟨o0, o1⟩, _⟩, _⟩ := hok
  unfold ne pfLt pfKeep pfR
  rw [Bool.eq_iff_iff, Bool.or_eq_true, Bool.or_eq_true, decide_eq_true_iff, decide_eq_true_iff, decide_eq_true_iff]
  cases h0 : addrB a0 <;> cases h1 : inB a1 0 32 <;> simp
  · refine Decidable.byContradiction fun hh => ?_
    obtain ⟨rfl, rfl⟩ : y = a1 ∧ x = a0 := by omega
    rw [o0] at h0; cases h0
  · refine Decidable.byContradiction fun hh => ?_
    obtain ⟨rfl, rfl⟩ : y = a1 ∧ x = a0 := by omega
    rw [o0] at h0; cases h0
  · refine Decidable.byContradiction fun hh => ?_
    obtain ⟨rfl, rfl⟩ : y = a1 ∧ x = a0 := by omega
    rw [o1] at h1; cases h1
  · omega
set_option maxRecDepth 100000 in
set_option maxHeartbeats 6400000 in
theorem s_PrefixDrop (T : Option Addr) (c : Nat) (l : List PfV) (a0 a1 : Int) (w : World) (h : IntsAt w T (pfF l)) (hl : l.length ≤ 1048576) :
    Calls Try.prog 26 #[.slice T l.length c, .int .i64 a0, .int .i64 a1] w fun e w' => ∃ v, e = .returned v ∧ ownR w' w.heap.size 41 3 v (pfLD l a0 a1).length (pfF (pfLD l a0 a1)) ∧ Below w.heap.size w w' := by
  have CT : Hid (∀ u : World, Below w.heap.size w u → Calls Try.prog 56 #[.slice T l.length c] u fun e w' => e = .returned (.bool (pfTab l)) ∧ Below u.heap.size u w') := fun u hu => s_pfTab T c l u (h.below hu) (by omega)
  have CB : Hid (∀ u : World, Calls Try.prog 57 #[.int .i64 a1, .int .i64 0, .int .i64 32] u fun e w' => e = .returned (.bool (inB a1 0 32)) ∧ w' = u) := fun u => s_In a1 0 32 u
  have CA : Hid (∀ u : World, Calls Try.prog 58 #[.int .i64 a0] u fun e w' => e = .returned (.bool (addrB a0)) ∧ w' = u) := fun u => s_Addr a0 u
  have hW0 : Below w.heap.size w (w.alloc (.cells #[] 41)) := (Below.refl _ w).alloc (Nat.le_refl _) _
  have HO0 : Hid (ownR (w.alloc (.cells #[] 41)) w.heap.size 41 3 (.slice (some ⟨w.heap.size, 0, none⟩) 0 0) 0 []) := World.ownsRow_made w #[] 0 (Nat.le_refl _) (by decide) rfl
  cases ht : pfTab l
  · rw [ht] at CT
    cases h1 : inB a1 0 32
    · rw [h1] at CB
      have hno : (inB a1 0 32 && addrB a0) = false := by rw [h1]; rfl
      have e : pfLD l a0 a1 = [] := by unfold pfLD pfDropR; rw [ht]; rfl
      rw [e]
      go_enter Try.func26, Try.ntmps26
      go_wp2_with (first | (go_at_call 57; refine (CB.out _).mono ?_; rintro e wz ⟨rfl, hz⟩; rw [hz]; clear hz wz) | (go_at_call 58; refine (CA.out _).mono ?_; rintro e wz ⟨rfl, hz⟩; rw [hz]; clear hz wz))
      generalize hW : w.alloc _ = w0 at *
      clear hW
      go_loopw [9, 7] (fun i v wr => i = .int .i64 0 ∧ v = .slice (some ⟨w.heap.size, 0, none⟩) 0 0 ∧ Below w0.heap.size w0 wr) (fun _ _ _ => 0)
      case atStart => exact ⟨rfl, rfl, Below.refl _ _⟩
      case round =>
        obtain ⟨rfl, rfl, hb⟩ := hrel
        have hB := hW0.trans (hb.mono hW0.size)
        have ho := HO0.out.far hb
        by_cases h0 : l.length = 0
        · have h1 : ¬ ((0 : Int) < (l.length : Int)) := by omega
          clear h0
          go_wp2
          go_ret
          exact ⟨_, rfl, ho, hB⟩
        · have h1 : (0 : Int) < (l.length : Int) := by omega
          go_wp2_with (go_at_call 56; refine (CT.out _ hB).mono ?_; rintro e w1 ⟨rfl, hb1⟩)
          go_ret
          exact ⟨_, rfl, ho.far hb1, hB.trans (hb1.mono hB.size)⟩
    · rw [h1] at CB
      cases h0 : addrB a0
      · rw [h0] at CA
        have hno : (inB a1 0 32 && addrB a0) = false := by rw [h1, h0]; rfl
        have e : pfLD l a0 a1 = [] := by unfold pfLD pfDropR; rw [ht]; rfl
        rw [e]
        go_enter Try.func26, Try.ntmps26
        go_wp2_with (first | (go_at_call 57; refine (CB.out _).mono ?_; rintro e wz ⟨rfl, hz⟩; rw [hz]; clear hz wz) | (go_at_call 58; refine (CA.out _).mono ?_; rintro e wz ⟨rfl, hz⟩; rw [hz]; clear hz wz))
        generalize hW : w.alloc _ = w0 at *
        clear hW
        go_loopw [9, 7] (fun i v wr => i = .int .i64 0 ∧ v = .slice (some ⟨w.heap.size, 0, none⟩) 0 0 ∧ Below w0.heap.size w0 wr) (fun _ _ _ => 0)
        case atStart => exact ⟨rfl, rfl, Below.refl _ _⟩
        case round =>
          obtain ⟨rfl, rfl, hb⟩ := hrel
          have hB := hW0.trans (hb.mono hW0.size)
          have ho := HO0.out.far hb
          by_cases h0 : l.length = 0
          · have h1 : ¬ ((0 : Int) < (l.length : Int)) := by omega
            clear h0
            go_wp2
            go_ret
            exact ⟨_, rfl, ho, hB⟩
          · have h1 : (0 : Int) < (l.length : Int) := by omega
            go_wp2_with (go_at_call 56; refine (CT.out _ hB).mono ?_; rintro e w1 ⟨rfl, hb1⟩)
            go_ret
            exact ⟨_, rfl, ho.far hb1, hB.trans (hb1.mono hB.size)⟩
      · rw [h0] at CA
        have e : pfLD l a0 a1 = [] := by unfold pfLD pfDropR; rw [ht]; rfl
        rw [e]
        go_enter Try.func26, Try.ntmps26
        go_wp2_with (first | (go_at_call 57; refine (CB.out _).mono ?_; rintro e wz ⟨rfl, hz⟩; rw [hz]; clear hz wz) | (go_at_call 58; refine (CA.out _).mono ?_; rintro e wz ⟨rfl, hz⟩; rw [hz]; clear hz wz))
        generalize hW : w.alloc _ = w0 at *
        clear hW
        go_loopw [9, 7] (fun i v wr => i = .int .i64 0 ∧ v = .slice (some ⟨w.heap.size, 0, none⟩) 0 0 ∧ Below w0.heap.size w0 wr) (fun _ _ _ => 0)
        case atStart => exact ⟨rfl, rfl, Below.refl _ _⟩
        case round =>
          obtain ⟨rfl, rfl, hb⟩ := hrel
          have hB := hW0.trans (hb.mono hW0.size)
          have ho := HO0.out.far hb
          by_cases h0 : l.length = 0
          · have h1 : ¬ ((0 : Int) < (l.length : Int)) := by omega
            clear h0
            go_wp2
            go_ret
            exact ⟨_, rfl, ho, hB⟩
          · have h1 : (0 : Int) < (l.length : Int) := by omega
            go_wp2_with (go_at_call 56; refine (CT.out _ hB).mono ?_; rintro e w1 ⟨rfl, hb1⟩)
            go_ret
            exact ⟨_, rfl, ho.far hb1, hB.trans (hb1.mono hB.size)⟩
  · rw [ht] at CT
    cases h1 : inB a1 0 32
    · rw [h1] at CB
      have hno : (inB a1 0 32 && addrB a0) = false := by rw [h1]; rfl
      have e : pfLD l a0 a1 = l := by rw [pfLD_eq l a0 a1 ht, hno]; exact List.filter_eq_self.2 (fun _ _ => rfl)
      rw [e]
      go_enter Try.func26, Try.ntmps26
      go_wp2_with (first | (go_at_call 57; refine (CB.out _).mono ?_; rintro e wz ⟨rfl, hz⟩; rw [hz]; clear hz wz) | (go_at_call 58; refine (CA.out _).mono ?_; rintro e wz ⟨rfl, hz⟩; rw [hz]; clear hz wz))
      generalize hW : w.alloc _ = w0 at *
      clear hW e
      go_loopw [9, 7] (fun i v wr => ∃ j : Nat, j ≤ l.length ∧ i = .int .i64 (j : Int) ∧ ownR wr w.heap.size 41 3 v (l.take j).length (pfF (l.take j)) ∧ Below w.heap.size w wr) (fun i _ _ => ((l.length : Int) - intOf i).toNat)
      case atStart => exact ⟨0, by omega, rfl, HO0.out, hW0⟩
      case round =>
        obtain ⟨j, hj, rfl, ho, hB⟩ := hrel
        by_cases hlt : j < l.length
        · have hj1 : (j : Int) < (l.length : Int) := by omega
          go_wp2_with fail
          go_at_call 56
          refine (CT.out _ hB).mono ?_
          rintro e w1 ⟨rfl, hb1⟩
          replace hB := hB.trans (hb1.mono hB.size)
          replace ho := ho.far hb1
          clear hb1
          rcases h.below hB with h | ⟨g, off, rfl, hg, hc⟩
          · have := pfF_len l; rw [h] at this; simp at this; omega
          · have hcs := pf_cells hc j hlt
            clear hc
            have HF : Hid (l.take (j + 1) = l.take j ++ [pfA l j]) := by
              show _ = _
              rw [List.take_succ_eq_append_getElem hlt, pfA_eq l j hlt]
            have hfl : (l.take j).length ≤ j := by simp; omega
            generalize l.take j = fl at *
            generalize pfA l j = b at *
            obtain ⟨x0, x1, x2⟩ := b
            have hne := BW.some w1
            have a0' := fun u : BW w1 => (u.le.cell (p := ⟨g, off + j * 3, none⟩) hg).trans hcs.1
            have a1' := fun u : BW w1 => (u.le.cell (p := ⟨g, off + j * 3 + 1, none⟩) hg).trans hcs.2.1
            have a2' := fun u : BW w1 => (u.le.cell (p := ⟨g, off + j * 3 + 2, none⟩) hg).trans hcs.2.2
            clear hcs
            go_wp2_with fail
            refine wp_region_below (by kernel_rfl) (by kernel_rfl) ?_
            repeat (go_big_quiet_step (fail))
            refine wpQuiet_nil ?_
            intro _ hw'
            obtain ⟨u, hw''⟩ := hw'
            subst hw''
            replace ho := ho.far u.le
            replace hB := hB.trans (u.le.mono hB.size)
            have hcs := (⟨a0' u, a1' u, a2' u⟩ : _ ∧ _ ∧ _)
            clear a0' a1' a2' hne
            generalize u.u = w2 at *
            clear u
            go_wp2_with (at_builtin; refine wpList_append_recs Try.infPrefix rfl _ _ rfl w.heap.size _ _ _ rfl (ho.alloc _) _ 1 1 [x0, x1, x2] rfl (by simp) (by simp) (ints_new w2 41 [x0, x1, x2]) (by omega) (by have := hB.size; simp; omega) ?_; intro v' w3 ho3 hb3)
            go_roundw
            case rel =>
              refine ⟨j + 1, by omega, by go_num, ?_, (hB.alloc hB.size _).trans hb3⟩
              rw [HF.out, pfF_app, List.length_append]; exact ho3
            case measure => simp [intOf]; omega
        · have e : j = l.length := by omega
          subst e
          rw [List.take_length] at ho
          go_wp2
          go_ret
          exact ⟨_, rfl, ho, hB⟩
    · rw [h1] at CB
      cases h0 : addrB a0
      · rw [h0] at CA
        have hno : (inB a1 0 32 && addrB a0) = false := by rw [h1, h0]; rfl
        have e : pfLD l a0 a1 = l := by rw [pfLD_eq l a0 a1 ht, hno]; exact List.filter_eq_self.2 (fun _ _ => rfl)
        rw [e]
        go_enter Try.func26, Try.ntmps26
        go_wp2_with (first | (go_at_call 57; refine (CB.out _).mono ?_; rintro e wz ⟨rfl, hz⟩; rw [hz]; clear hz wz) | (go_at_call 58; refine (CA.out _).mono ?_; rintro e wz ⟨rfl, hz⟩; rw [hz]; clear hz wz))
        generalize hW : w.alloc _ = w0 at *
        clear hW e
        go_loopw [9, 7] (fun i v wr => ∃ j : Nat, j ≤ l.length ∧ i = .int .i64 (j : Int) ∧ ownR wr w.heap.size 41 3 v (l.take j).length (pfF (l.take j)) ∧ Below w.heap.size w wr) (fun i _ _ => ((l.length : Int) - intOf i).toNat)
        case atStart => exact ⟨0, by omega, rfl, HO0.out, hW0⟩
        case round =>
          obtain ⟨j, hj, rfl, ho, hB⟩ := hrel
          by_cases hlt : j < l.length
          · have hj1 : (j : Int) < (l.length : Int) := by omega
            go_wp2_with fail
            go_at_call 56
            refine (CT.out _ hB).mono ?_
            rintro e w1 ⟨rfl, hb1⟩
            replace hB := hB.trans (hb1.mono hB.size)
            replace ho := ho.far hb1
            clear hb1
            rcases h.below hB with h | ⟨g, off, rfl, hg, hc⟩
            · have := pfF_len l; rw [h] at this; simp at this; omega
            · have hcs := pf_cells hc j hlt
              clear hc
              have HF : Hid (l.take (j + 1) = l.take j ++ [pfA l j]) := by
                show _ = _
                rw [List.take_succ_eq_append_getElem hlt, pfA_eq l j hlt]
              have hfl : (l.take j).length ≤ j := by simp; omega
              generalize l.take j = fl at *
              generalize pfA l j = b at *
              obtain ⟨x0, x1, x2⟩ := b
              have hne := BW.some w1
              have a0' := fun u : BW w1 => (u.le.cell (p := ⟨g, off + j * 3, none⟩) hg).trans hcs.1
              have a1' := fun u : BW w1 => (u.le.cell (p := ⟨g, off + j * 3 + 1, none⟩) hg).trans hcs.2.1
              have a2' := fun u : BW w1 => (u.le.cell (p := ⟨g, off + j * 3 + 2, none⟩) hg).trans hcs.2.2
              clear hcs
              go_wp2_with fail
              refine wp_region_below (by kernel_rfl) (by kernel_rfl) ?_
              repeat (go_big_quiet_step (fail))
              refine wpQuiet_nil ?_
              intro _ hw'
              obtain ⟨u, hw''⟩ := hw'
              subst hw''
              replace ho := ho.far u.le
              replace hB := hB.trans (u.le.mono hB.size)
              have hcs := (⟨a0' u, a1' u, a2' u⟩ : _ ∧ _ ∧ _)
              clear a0' a1' a2' hne
              generalize u.u = w2 at *
              clear u
              go_wp2_with (at_builtin; refine wpList_append_recs Try.infPrefix rfl _ _ rfl w.heap.size _ _ _ rfl (ho.alloc _) _ 1 1 [x0, x1, x2] rfl (by simp) (by simp) (ints_new w2 41 [x0, x1, x2]) (by omega) (by have := hB.size; simp; omega) ?_; intro v' w3 ho3 hb3)
              go_roundw
              case rel =>
                refine ⟨j + 1, by omega, by go_num, ?_, (hB.alloc hB.size _).trans hb3⟩
                rw [HF.out, pfF_app, List.length_append]; exact ho3
              case measure => simp [intOf]; omega
          · have e : j = l.length := by omega
            subst e
            rw [List.take_length] at ho
            go_wp2
            go_ret
            exact ⟨_, rfl, ho, hB⟩
      · rw [h0] at CA
        have e : pfLD l a0 a1 = l.filter (pfKeep true (top a0 a1) a1) := by rw [pfLD_eq l a0 a1 ht, h1, h0]; rfl
        rw [e]
        obtain ⟨q0, q1⟩ := of_inB h1
        obtain ⟨q2, q3⟩ := of_inB h0
        have hmk := and_mask a0 a1 q2 q3 q0 q1
        have CMk : Hid (∀ u : World, Calls Try.prog 59 #[.int .i64 a1] u fun e w' => e = .returned (.int .i64 (maskOf a1)) ∧ w' = u) := fun u => s_Mask a1 u q0 q1
        clear q0 q1 q2 q3
        go_enter Try.func26, Try.ntmps26
        go_wp2_with (first | (go_at_call 57; refine (CB.out _).mono ?_; rintro e wz ⟨rfl, hz⟩; rw [hz]; clear hz wz) | (go_at_call 58; refine (CA.out _).mono ?_; rintro e wz ⟨rfl, hz⟩; rw [hz]; clear hz wz))
        generalize hW : w.alloc _ = w0 at *
        clear hW e
        go_loopw [9, 7] (fun i v wr => ∃ j : Nat, j ≤ l.length ∧ i = .int .i64 (j : Int) ∧ ownR wr w.heap.size 41 3 v ((l.take j).filter (pfKeep true (top a0 a1) a1)).length (pfF ((l.take j).filter (pfKeep true (top a0 a1) a1))) ∧ Below w.heap.size w wr) (fun i _ _ => ((l.length : Int) - intOf i).toNat)
        case atStart => exact ⟨0, by omega, rfl, HO0.out, hW0⟩
        case round =>
          obtain ⟨j, hj, rfl, ho, hB⟩ := hrel
          by_cases hlt : j < l.length
          · have hj1 : (j : Int) < (l.length : Int) := by omega
            go_wp2_with fail
            go_at_call 56
            refine (CT.out _ hB).mono ?_
            rintro e w1 ⟨rfl, hb1⟩
            replace hB := hB.trans (hb1.mono hB.size)
            replace ho := ho.far hb1
            clear hb1
            rcases h.below hB with h | ⟨g, off, rfl, hg, hc⟩
            · have := pfF_len l; rw [h] at this; simp at this; omega
            · have hcs := pf_cells hc j hlt
              clear hc
              have HF : Hid ((l.take (j + 1)).filter (pfKeep true (top a0 a1) a1) = (l.take j).filter (pfKeep true (top a0 a1) a1) ++ (if pfKeep true (top a0 a1) a1 (pfA l j) = true then [pfA l j] else [])) := by
                show _ = _
                rw [List.take_succ_eq_append_getElem hlt, List.filter_append, pfA_eq l j hlt, List.filter_cons, List.filter_nil]
              have hfl : ((l.take j).filter (pfKeep true (top a0 a1) a1)).length ≤ j := Nat.le_trans (List.length_filter_le _ _) (by simp; omega)
              have HKe : Hid (pfKeep true (top a0 a1) a1 (pfA l j) = decide (¬ ((pfA l j).bits = a1 ∧ (pfA l j).addr = top a0 a1))) := rfl
              generalize (l.take j).filter (pfKeep true (top a0 a1) a1) = fl at *
              generalize pfKeep true (top a0 a1) a1 (pfA l j) = kp at *
              generalize pfA l j = b at *
              obtain ⟨x0, x1, x2⟩ := b
              have HKf : Hid (kp = decide (¬ (x1 = a1 ∧ x0 = top a0 a1))) := HKe
              clear HKe
              have hne := BW.some w1
              have a0' := fun u : BW w1 => (u.le.cell (p := ⟨g, off + j * 3, none⟩) hg).trans hcs.1
              have a1' := fun u : BW w1 => (u.le.cell (p := ⟨g, off + j * 3 + 1, none⟩) hg).trans hcs.2.1
              have a2' := fun u : BW w1 => (u.le.cell (p := ⟨g, off + j * 3 + 2, none⟩) hg).trans hcs.2.2
              clear hcs
              have hcase : (x1 = a1 ∧ x0 = top a0 a1) ∨ (¬ x1 = a1) ∨ (x1 = a1 ∧ ¬ x0 = top a0 a1) := by omega
              rcases hcase with ⟨q0, q1⟩ | q0 | ⟨q0, q1⟩
              · have e1 : kp = false := by rw [HKf.out, decide_eq_false]; simp [q0, q1]
                subst e1
                rw [if_neg (by decide), List.append_nil] at HF
                have q0b : (x1 != a1) = false := by simp [q0]
                have q1b : (x0 != top a0 a1) = false := by simp [q1]
                clear q0 q1
                go_wp2_with fail
                refine wp_region_below (by kernel_rfl) (by kernel_rfl) ?_
                repeat (go_big_quiet_step (first | (go_at_call 59; exact Calls.into_same (CMk.out _))))
                refine wpQuiet_nil ?_
                intro _ hw'
                obtain ⟨u, hw''⟩ := hw'
                subst hw''
                replace ho := ho.far u.le
                replace hB := hB.trans (u.le.mono hB.size)
                have hcs := (⟨a0' u, a1' u, a2' u⟩ : _ ∧ _ ∧ _)
                clear a0' a1' a2' hne
                generalize u.u = w2 at *
                clear u
                go_wp2
                go_roundw
                case rel => exact ⟨j + 1, by omega, by go_num, by rw [HF.out]; exact ho, hB⟩
                case measure => simp [intOf]; omega
              · have e1 : kp = true := by rw [HKf.out, decide_eq_true]; simp [q0]
                subst e1
                rw [if_pos rfl] at HF
                have q0b : (x1 != a1) = true := by simpa using q0
                clear q0
                go_wp2_with fail
                refine wp_region_below (by kernel_rfl) (by kernel_rfl) ?_
                repeat (go_big_quiet_step (first | (go_at_call 59; exact Calls.into_same (CMk.out _))))
                refine wpQuiet_nil ?_
                intro _ hw'
                obtain ⟨u, hw''⟩ := hw'
                subst hw''
                replace ho := ho.far u.le
                replace hB := hB.trans (u.le.mono hB.size)
                have hcs := (⟨a0' u, a1' u, a2' u⟩ : _ ∧ _ ∧ _)
                clear a0' a1' a2' hne
                generalize u.u = w2 at *
                clear u
                go_wp2_with (at_builtin; refine wpList_append_recs Try.infPrefix rfl _ _ rfl w.heap.size _ _ _ rfl (ho.alloc _) _ 1 1 [x0, x1, x2] rfl (by simp) (by simp) (ints_new w2 41 [x0, x1, x2]) (by omega) (by have := hB.size; simp; omega) ?_; intro v' w3 ho3 hb3)
                go_roundw
                case rel =>
                  refine ⟨j + 1, by omega, by go_num, ?_, (hB.alloc hB.size _).trans hb3⟩
                  rw [HF.out, pfF_app, List.length_append]; exact ho3
                case measure => simp [intOf]; omega
              · have e1 : kp = true := by rw [HKf.out, decide_eq_true]; simp [q1]
                subst e1
                rw [if_pos rfl] at HF
                have q0b : (x1 != a1) = false := by simp [q0]
                have q1b : (x0 != top a0 a1) = true := by simpa using q1
                clear q0 q1
                go_wp2_with fail
                refine wp_region_below (by kernel_rfl) (by kernel_rfl) ?_
                repeat (go_big_quiet_step (first | (go_at_call 59; exact Calls.into_same (CMk.out _))))
                refine wpQuiet_nil ?_
                intro _ hw'
                obtain ⟨u, hw''⟩ := hw'
                subst hw''
                replace ho := ho.far u.le
                replace hB := hB.trans (u.le.mono hB.size)
                have hcs := (⟨a0' u, a1' u, a2' u⟩ : _ ∧ _ ∧ _)
                clear a0' a1' a2' hne
                generalize u.u = w2 at *
                clear u
                go_wp2_with (at_builtin; refine wpList_append_recs Try.infPrefix rfl _ _ rfl w.heap.size _ _ _ rfl (ho.alloc _) _ 1 1 [x0, x1, x2] rfl (by simp) (by simp) (ints_new w2 41 [x0, x1, x2]) (by omega) (by have := hB.size; simp; omega) ?_; intro v' w3 ho3 hb3)
                go_roundw
                case rel =>
                  refine ⟨j + 1, by omega, by go_num, ?_, (hB.alloc hB.size _).trans hb3⟩
                  rw [HF.out, pfF_app, List.length_append]; exact ho3
                case measure => simp [intOf]; omega
          · have e : j = l.length := by omega
            subst e
            rw [List.take_length] at ho
            go_wp2
            go_ret
            exact ⟨_, rfl, ho, hB⟩
end Go.Proofs.Ythmkeodakkdfiaa
