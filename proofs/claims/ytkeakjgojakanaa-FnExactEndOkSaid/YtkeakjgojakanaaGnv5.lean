/-
  The bytes of a Geneve, by the model.
-/
import Derived.Test.YtkeakjgojakanaaGnv4
namespace Go.Proofs.Ytkeakjgojakanaa
open Go.RowKit Go.PlainAid
set_option maxRecDepth 100000 in
set_option maxHeartbeats 3200000 in
theorem s_Opts (T : Option Addr) (c : Nat) (l : List OpV) (w : World) (h : CellsAt w T (opF l)) (hn : l.length + opTot l ≤ 1048576) :
    Calls Try.prog 56 #[.slice T l.length c] w fun e w' => e = .returned (.bool (opsB l)) ∧ Below w.heap.size w w' := by
  have HB : Hid (opsB l = (opsOk l && decide (opSum l ≤ 252))) := rfl
  have HNo : Hid (∀ j, j < l.length → opOk (opA l j) = false → opsOk l = false) := fun j hj h => opsOk_no j hj h
  have HAl : Hid ((∀ i, i < l.length → opOk (opA l i) = true) → opsOk l = true) := fun h => opsOk_all h
  have HSe : Hid (opSum l = 4 * l.length + opTot l) := opSum_eq l
  have CI : Hid (∀ (n : Int) (u : World), Calls Try.prog 53 #[.int .i64 n, .int .i64 0, .int .i64 65535] u fun e w' => e = .returned (.bool (inB n 0 65535)) ∧ w' = u) := fun n u => s_In n 0 65535 u
  have CB : Hid (∀ (n : Int) (u : World), Calls Try.prog 114 #[.int .i64 n] u fun e w' => e = .returned (.bool (byteB n)) ∧ w' = u) := fun n u => s_Byte n u
  go_enter Try.func56, Try.ntmps56
  go_wp2
  go_loopw [4, 3] (fun i q wr => ∃ j : Nat, j ≤ l.length ∧ i = .int .i64 (j : Int) ∧ q = .int .i64 (opSum (l.take j) : Int) ∧ Hid (∀ i, i < j → opOk (opA l i) = true) ∧ Below w.heap.size w wr) (fun i _ _ => ((l.length : Int) - intOf i).toNat)
  case atStart => exact ⟨0, by omega, rfl, rfl, fun i hi => by omega, Below.refl _ _⟩
  case round =>
    obtain ⟨j, hj, rfl, rfl, HP, hb⟩ := hrel
    by_cases hlt : j < l.length
    · rcases h.below hb with h | ⟨g, off, rfl, hg, hc⟩
      · have := opF_len l; rw [h] at this; simp at this; omega
      · have hcs := op_cells hc j hlt
        clear hc
        have hj1 : (j : Int) < (l.length : Int) := by omega
        have hsz : (opA l j).data.size ≤ 1048576 := by
          have h1 := opTot_take l j hlt
          have h2 := opTot_le l (j + 1)
          have e : opSz (opA l j) = (opA l j).data.size := rfl
          omega
        have ht := opSum_take l j hlt
        have htl := opSum_le l (j + 1)
        have hse := HSe.out
        have HOK : Hid (opOk (opA l j) = false → opsOk l = false) := HNo.out j hlt
        have HNX : Hid (opOk (opA l j) = true → ∀ i, i < j + 1 → opOk (opA l i) = true) := fun h1 i hi => by
          by_cases e : i = j
          · rw [e]; exact h1
          · exact HP.out i (by omega)
        have HO : Hid (opOk (opA l j) = (inB (opA l j).cls 0 65535 && byteB (opA l j).typ && decide ((opA l j).data.size ≤ 124) && decide ((opA l j).data.size % 4 = 0))) := rfl
        obtain ⟨sz, hs1, hs2⟩ : ∃ sz : Nat, sz ≤ opSum (l.take j) ∧ opSum (l.take j) ≤ sz := ⟨_, Nat.le_refl _, Nat.le_refl _⟩
        rw [show opSum (l.take j) = sz from by omega]
        have hnext : Hid (opSum (l.take (j + 1)) = sz + (4 + (opA l j).data.size)) := by unfold Hid; omega
        have hbd : sz + (4 + (opA l j).data.size) ≤ 8388608 := by omega
        clear ht htl hse hs1 hs2
        generalize opOk (opA l j) = ok at *
        generalize opA l j = a at *
        obtain ⟨cls, typ, data⟩ := a
        dsimp only at hbd hcs hnext HO hsz
        have hrm : Int.tmod (data.size : Int) 4 = ((data.size % 4 : Nat) : Int) := by rw [Int.tmod_eq_emod_of_nonneg (by omega)]; omega
        cases h1 : inB cls 0 65535
        · have hk : ok = false := by rw [HO.out, h1]; rfl
          subst hk
          clear HO HNX
          go_wp2_with (first | (go_at_call 53; refine (CI.out _ _).mono ?_; rintro e wz ⟨rfl, hz⟩; rw [hz, h1]; clear hz wz))
          go_ret
          exact ⟨ret_bool (by rw [HB.out, HOK.out (by first | rfl | trivial)]; rfl), hb⟩
        · cases h2 : byteB typ
          · have hk : ok = false := by rw [HO.out, h1, h2]; rfl
            subst hk
            clear HO HNX
            go_wp2_with (first | (go_at_call 53; refine (CI.out _ _).mono ?_; rintro e wz ⟨rfl, hz⟩; rw [hz, h1]; clear hz wz) | (go_at_call 114; refine (CB.out _ _).mono ?_; rintro e wz ⟨rfl, hz⟩; rw [hz, h2]; clear hz wz))
            go_ret
            exact ⟨ret_bool (by rw [HB.out, HOK.out (by first | rfl | trivial)]; rfl), hb⟩
          · by_cases h3 : data.size ≤ 124
            · have h3' : decide ((124 : Int) < (data.size : Int)) = false := by simp; omega
              by_cases h4 : data.size % 4 = 0
              · have hk : ok = true := by rw [HO.out, h1, h2, decide_eq_true h3, decide_eq_true h4]; rfl
                subst hk
                have h4' : (((data.size % 4 : Nat) : Int) != 0) = false := by rw [h4]; rfl
                clear HO HOK
                go_wp2_with (first | (go_at_call 53; refine (CI.out _ _).mono ?_; rintro e wz ⟨rfl, hz⟩; rw [hz, h1]; clear hz wz) | (go_at_call 114; refine (CB.out _ _).mono ?_; rintro e wz ⟨rfl, hz⟩; rw [hz, h2]; clear hz wz))
                go_roundw
                case rel => exact ⟨j + 1, by omega, by go_num, by rw [hnext.out]; first | (congr 1; omega) | (congr 1; push_cast; omega), HNX.out (by first | rfl | trivial), hb⟩
                case measure => simp [intOf]; omega
              · have hk : ok = false := by rw [HO.out, h1, h2, decide_eq_true h3, decide_eq_false h4]; rfl
                subst hk
                have h4' : (((data.size % 4 : Nat) : Int) != 0) = true := by simp; omega
                clear HO HNX
                go_wp2_with (first | (go_at_call 53; refine (CI.out _ _).mono ?_; rintro e wz ⟨rfl, hz⟩; rw [hz, h1]; clear hz wz) | (go_at_call 114; refine (CB.out _ _).mono ?_; rintro e wz ⟨rfl, hz⟩; rw [hz, h2]; clear hz wz))
                go_ret
                exact ⟨ret_bool (by rw [HB.out, HOK.out (by first | rfl | trivial)]; rfl), hb⟩
            · have h3' : (124 : Int) < (data.size : Int) := by omega
              have hk : ok = false := by rw [HO.out, h1, h2, decide_eq_false h3]; rfl
              subst hk
              clear HO HNX
              go_wp2_with (first | (go_at_call 53; refine (CI.out _ _).mono ?_; rintro e wz ⟨rfl, hz⟩; rw [hz, h1]; clear hz wz) | (go_at_call 114; refine (CB.out _ _).mono ?_; rintro e wz ⟨rfl, hz⟩; rw [hz, h2]; clear hz wz))
              go_ret
              exact ⟨ret_bool (by rw [HB.out, HOK.out (by first | rfl | trivial)]; rfl), hb⟩
    · have e : j = l.length := by omega
      subst e
      rw [List.take_length]
      go_wp2
      go_ret
      exact ⟨ret_bool (by rw [HB.out, HAl.out HP.out, Bool.true_and, Bool.eq_iff_iff, decide_eq_true_iff, decide_eq_true_iff]; omega), hb⟩
theorem gvFl_take (l : List OpV) (j : Nat) (h : j < l.length) : gvFl (l.take (j + 1)) = if opCr (opA l j) then 64 else gvFl (l.take j) := by
  unfold gvFl opsCr
  rw [List.take_succ_eq_append_getElem h, opA_eq l j h, List.any_append]
  simp only [List.any_cons, List.any_nil, Bool.or_false]
  cases opCr l[j] <;> cases (List.any (List.take j l) opCr) <;> rfl
end Go.Proofs.Ytkeakjgojakanaa
