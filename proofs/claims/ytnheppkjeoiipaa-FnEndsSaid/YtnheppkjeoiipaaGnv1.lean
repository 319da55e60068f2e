/-
  Options of a Geneve: which one is right, how many bytes they have; the program.
-/
import Derived.Test.YtnheppkjeoiipaaTabOpt
import Derived.Test.YtnheppkjeoiipaaIps1
namespace Go.Proofs.Ytnheppkjeoiipaa
open Go.RowKit Go.PlainAid
def opOk (a : OpV) : Bool := inB a.cls 0 65535 && byteB a.typ && decide (a.data.size ≤ 124) && decide (a.data.size % 4 = 0)
def opLen (a : OpV) : Nat := 4 + a.data.size
def opSum (l : List OpV) : Nat := totV opLen l
theorem opSum_take (l : List OpV) (j : Nat) (h : j < l.length) : opSum (l.take (j + 1)) = opSum (l.take j) + (4 + (opA l j).data.size) := by
  rw [opA_eq l j h]; exact totV_take _ l j h
theorem opSum_le (l : List OpV) (j : Nat) : opSum (l.take j) ≤ opSum l := totV_le _ l j
theorem opSum_eq (l : List OpV) : opSum l = 4 * l.length + opTot l := by
  induction l with
  | nil => rfl
  | cons a l ih =>
    have e1 : opSum (a :: l) = (4 + a.data.size) + opSum l := rfl
    have e2 : opTot (a :: l) = a.data.size + opTot l := rfl
    rw [e1, e2, ih, List.length_cons]; omega
set_option maxRecDepth 100000 in
set_option maxHeartbeats 1600000 in
theorem i_isOpt (a : OpV) (w : World) (hs : a.data.size ≤ 1048576) :
    Calls Try.prog 83 #[.agg (opL a)] w fun e w' => e = .returned (.bool (opOk a)) ∧ Below w.heap.size w w' := by
  have HO : Hid (opOk a = (inB a.cls 0 65535 && byteB a.typ && decide (a.data.size ≤ 124) && decide (a.data.size % 4 = 0))) := rfl
  obtain ⟨cls, typ, data⟩ := a
  simp only [opL] at *
  have hb : Below w.heap.size w (w.alloc (.cells #[.int .i64 cls, .int .i64 typ, .string data] 33)) := (Below.refl _ w).alloc (Nat.le_refl _) _
  have CP : Hid (∀ u : World, Calls Try.prog 90 #[.int .i64 cls] u fun e w' => e = .returned (.bool (inB cls 0 65535)) ∧ w' = u) := fun u => i_isPair cls u
  have CB : Hid (∀ u : World, Calls Try.prog 91 #[.int .i64 typ] u fun e w' => e = .returned (.bool (byteB typ)) ∧ w' = u) := fun u => i_isByte typ u
  generalize inB cls 0 65535 = b1 at *
  generalize byteB typ = b2 at *
  have ht : Int.tmod (data.size : Int) 4 = ((data.size % 4 : Nat) : Int) := by rw [Int.tmod_eq_emod_of_nonneg (by omega)]; omega
  cases b1
  · go_enter Try.func83, Try.ntmps83
    go_wp2_with (go_at_call 90; refine (CP.out _).mono ?_; rintro e wz ⟨rfl, hz⟩; rw [hz]; clear hz wz)
    go_ret
    exact ⟨ret_bool (by rw [HO.out]; rfl), hb⟩
  · cases b2
    · go_enter Try.func83, Try.ntmps83
      go_wp2_with (first | (go_at_call 90; refine (CP.out _).mono ?_; rintro e wz ⟨rfl, hz⟩; rw [hz]; clear hz wz) | (go_at_call 91; refine (CB.out _).mono ?_; rintro e wz ⟨rfl, hz⟩; rw [hz]; clear hz wz))
      go_ret
      exact ⟨ret_bool (by rw [HO.out]; rfl), hb⟩
    · by_cases h1 : data.size ≤ 124
      · have h1' : (data.size : Int) ≤ 124 := by omega
        go_enter Try.func83, Try.ntmps83
        go_wp2_with (first | (go_at_call 90; refine (CP.out _).mono ?_; rintro e wz ⟨rfl, hz⟩; rw [hz]; clear hz wz) | (go_at_call 91; refine (CB.out _).mono ?_; rintro e wz ⟨rfl, hz⟩; rw [hz]; clear hz wz))
        go_ret
        exact ⟨ret_bool (by rw [HO.out, decide_eq_true h1]; rw [Bool.eq_iff_iff]; simp; omega), hb⟩
      · have h1' : decide ((data.size : Int) ≤ 124) = false := by simp; omega
        go_enter Try.func83, Try.ntmps83
        go_wp2_with (first | (go_at_call 90; refine (CP.out _).mono ?_; rintro e wz ⟨rfl, hz⟩; rw [hz]; clear hz wz) | (go_at_call 91; refine (CB.out _).mono ?_; rintro e wz ⟨rfl, hz⟩; rw [hz]; clear hz wz))
        go_ret
        exact ⟨ret_bool (by rw [HO.out, decide_eq_false h1]; rfl), hb⟩
set_option maxRecDepth 100000 in
set_option maxHeartbeats 1600000 in
theorem i_optsSize (T : Option Addr) (c : Nat) (l : List OpV) (w : World) (h : CellsAt w T (opF l)) (hn : l.length + opTot l ≤ 1048576) :
    Calls Try.prog 84 #[.slice T l.length c] w fun e w' => e = .returned (.int .i64 (opSum l : Int)) ∧ Below w.heap.size w w' := by
  have hsum := opSum_eq l
  go_enter Try.func84, Try.ntmps84
  go_wp2
  go_loopw [8, 3] (fun i q wr => ∃ j : Nat, j ≤ l.length ∧ i = .int .i64 (j : Int) ∧ q = .int .i64 (opSum (l.take j) : Int) ∧ Below w.heap.size w wr) (fun i _ _ => ((l.length : Int) - intOf i).toNat)
  case atStart => exact ⟨0, by omega, rfl, rfl, Below.refl _ _⟩
  case round =>
    obtain ⟨j, hj, rfl, rfl, hb⟩ := hrel
    by_cases hlt : j < l.length
    · rcases h.below hb with h | ⟨g, off, rfl, hg, hc⟩
      · have := opF_len l; rw [h] at this; simp at this; omega
      · have hcs := op_cells hc j hlt
        clear hc
        have hj1 : (j : Int) < (l.length : Int) := by omega
        have ht := opSum_take l j hlt
        have htl := opSum_le l (j + 1)
        have hB1 : ∀ x, Below w.heap.size w (wr.alloc x) := fun x => hb.alloc hb.size _
        obtain ⟨sz, hsz, hsz'⟩ : ∃ sz : Nat, sz ≤ opSum (l.take j) ∧ opSum (l.take j) ≤ sz := ⟨_, Nat.le_refl _, Nat.le_refl _⟩
        rw [show opSum (l.take j) = sz from by omega]
        have hnext : Hid (opSum (l.take (j + 1)) = sz + (4 + (opA l j).data.size)) := by unfold Hid; omega
        have hbd : sz + (4 + (opA l j).data.size) ≤ 8388608 := by omega
        clear ht htl hsum hsz hsz'
        generalize opA l j = a at *
        obtain ⟨cls, typ, data⟩ := a
        dsimp only at hbd hcs hnext
        go_wp2
        go_roundw
        case rel => exact ⟨j + 1, by omega, by go_num, by rw [hnext.out]; congr 1, hB1 _⟩
        case measure => simp [intOf]; omega
    · have e : j = l.length := by omega
      subst e
      rw [List.take_length]
      go_wp2
      go_ret
      exact ⟨rfl, hb⟩
end Go.Proofs.Ytnheppkjeoiipaa
