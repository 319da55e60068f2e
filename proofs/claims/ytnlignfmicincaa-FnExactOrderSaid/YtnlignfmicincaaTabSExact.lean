/-
  The model's rules asked exactly: what a table is, what is found; the exact law on it.
-/
import Derived.Test.YtnlignfmicincaaTabIExact
namespace Go.Proofs.Ytnlignfmicincaa
open Go.RowKit Go.PlainAid
def exFound (l : List ExV) (key : Int) : Int := ((exFilt l key).head?.map (·.act)).getD 0
theorem dr {B : Nat} (w : World) (n : Nat) : Below B w (w.drewN n) := ⟨rfl, rfl, rfl, Nat.le_refl _, fun _ _ => rfl⟩
theorem exStep_eq (l : List ExV) (i : Nat) (h0 : 0 < i) : stepB exOk exLt (exA l) i = (keyB (exA l i).key && actB (exA l i).act && decide ((exA l (i - 1)).key < (exA l i).key)) := by
  unfold stepB
  have : (i == 0) = false := by simp; omega
  rw [this]; rfl
set_option maxRecDepth 100000 in
set_option maxHeartbeats 3200000 in
theorem s_exTab (T : Option Addr) (c : Nat) (l : List ExV) (w : World) (h : IntsAt w T (exF l)) (hl : l.length ≤ 1099511627776) :
    Calls Try.prog 29 #[.slice T l.length c] w fun e w' => e = .returned (.bool (exTab l)) ∧ Below w.heap.size w w' := by
  have HY : Hid ((∀ i, i < l.length → stepB exOk exLt (exA l) i = true) → exTab l = decide (l.length ≤ 32)) := fun h => by
    by_cases hn : l.length ≤ 32
    · rw [decide_eq_true hn]; exact tblB_yes hn h
    · rw [decide_eq_false hn]; exact tblB_long (by omega)
  have HN : Hid (∀ i, i < l.length → stepB exOk exLt (exA l) i = false → exTab l = false) := fun i hi h => tblB_no hi h
  generalize exTab l = t at *
  go_enter Try.func29, Try.ntmps29
  go_wp2
  go_loopw [3] (fun i wr => ∃ j : Nat, j ≤ l.length ∧ i = .int .i64 (j : Int) ∧ Hid (∀ i, i < j → stepB exOk exLt (exA l) i = true) ∧ Below w.heap.size w wr) (fun i _ => ((l.length : Int) - intOf i).toNat)
  case atStart => exact ⟨0, by omega, rfl, fun i hi => by omega, Below.refl _ _⟩
  case round =>
    obtain ⟨j, hj, rfl, hst, hb⟩ := hrel
    by_cases hlt : j < l.length
    · rcases h.below hb with h | ⟨g, off, rfl, hg, hc⟩
      · have := exF_len l; rw [h] at this; simp at this; omega
      · have hj1 : (j : Int) < (l.length : Int) := by omega
        have hcs := ex_cells hc j hlt
        have hcp : Hid (0 < j → wr.cell? ⟨g, off + (j - 1) * 2, none⟩ = some (.int .i64 (exA l (j - 1)).key)) := fun h0 => (ex_cells hc (j - 1) (by omega)).1
        have HS : Hid (stepB exOk exLt (exA l) j = (exOk (exA l j) && (j == 0 || exLt (exA l (j - 1)) (exA l j)))) := rfl
        clear hc
        have HG : Hid (∀ b, stepB exOk exLt (exA l) j = b → b = false → t = false) := fun b hb hb2 => HN.out j hlt (hb.trans hb2)
        have HR : Hid (stepB exOk exLt (exA l) j = true → ∀ i, i < j + 1 → stepB exOk exLt (exA l) i = true) := fun h1 i hi => by
          by_cases e : i = j
          · rw [e]; exact h1
          · exact hst.out i (by omega)
        generalize stepB exOk exLt (exA l) j = sb at *
        have hrem : 0 < j → exA l (j - 1) = exA l (j - 1) := fun _ => rfl
        clear hrem
        unfold exOk exLt at HS
        cases hk : keyB (exA l j).key
        · have CK : Hid (∀ u : World, Calls Try.prog 31 #[.int .i64 (exA l j).key] u fun e w' => e = .returned (.bool false) ∧ w' = u) := fun u => by have := s_Key (exA l j).key u; rw [hk] at this; exact this
          have hz : sb = false := by rw [HS.out, hk]; rfl
          generalize exA l j = b at *
          obtain ⟨x0, x1⟩ := b
          go_wp2
          go_quiet (first | (go_at_call 31; refine Calls.quiet_of_same (CK.out _)))
          go_wp2
          go_ret
          exact ⟨ret_bool (HG.out _ rfl hz).symm, hb.trans (dr _ _)⟩
        · have CK : Hid (∀ u : World, Calls Try.prog 31 #[.int .i64 (exA l j).key] u fun e w' => e = .returned (.bool true) ∧ w' = u) := fun u => by have := s_Key (exA l j).key u; rw [hk] at this; exact this
          cases ha : actB (exA l j).act
          · have CA : Hid (∀ u : World, Calls Try.prog 32 #[.int .i64 (exA l j).act] u fun e w' => e = .returned (.bool false) ∧ w' = u) := fun u => by have := s_Act (exA l j).act u; rw [ha] at this; exact this
            have hz : sb = false := by rw [HS.out, hk, ha]; rfl
            generalize exA l j = b at *
            obtain ⟨x0, x1⟩ := b
            go_wp2
            go_quiet (first | (go_at_call 31; refine Calls.quiet_of_same (CK.out _)) | (go_at_call 32; refine Calls.quiet_of_same (CA.out _)))
            go_wp2
            go_ret
            exact ⟨ret_bool (HG.out _ rfl hz).symm, hb.trans (dr _ _)⟩
          · have CA : Hid (∀ u : World, Calls Try.prog 32 #[.int .i64 (exA l j).act] u fun e w' => e = .returned (.bool true) ∧ w' = u) := fun u => by have := s_Act (exA l j).act u; rw [ha] at this; exact this
            by_cases h0 : 0 < j
            · have hpv := hcp.out h0
              have hd : decide (0 < (j : Int)) = true := by simp; omega
              have hj2 : (j : Int) - 1 = ((j - 1 : Nat) : Int) := by omega
              have hj3 : ((j - 1 : Nat) : Int) < (l.length : Int) := by omega
              have hj4 : (j == 0) = false := by simp; omega
              rw [hk, ha, hj4] at HS
              generalize exA l (j - 1) = b0 at *
              generalize exA l j = b at *
              obtain ⟨x0, x1⟩ := b
              obtain ⟨y0, y1⟩ := b0
              by_cases hlt2 : y0 < x0
              · have hz : sb = true := by rw [HS.out]; simpa using hlt2
                have hge : ¬ x0 ≤ y0 := by omega
                go_wp2
                go_quiet (first | (go_at_call 31; refine Calls.quiet_of_same (CK.out _)) | (go_at_call 32; refine Calls.quiet_of_same (CA.out _)))
                go_wp2
                go_roundw
                case rel => exact ⟨j + 1, by omega, by go_num, HR.out hz, hb.trans (dr _ _)⟩
                case measure => simp [intOf]; omega
              · have hz : sb = false := by rw [HS.out]; simpa using hlt2
                have hge : x0 ≤ y0 := by omega
                go_wp2
                go_quiet (first | (go_at_call 31; refine Calls.quiet_of_same (CK.out _)) | (go_at_call 32; refine Calls.quiet_of_same (CA.out _)))
                go_wp2
                go_ret
                exact ⟨ret_bool (HG.out _ rfl hz).symm, hb.trans (dr _ _)⟩
            · have hj0 : j = 0 := by omega
              have hz : sb = true := by rw [HS.out, hk, ha, hj0]; rfl
              subst hj0
              simp only [Nat.zero_mul, Nat.add_zero] at hcs
              generalize exA l 0 = b at *
              obtain ⟨x0, x1⟩ := b
              go_wp2
              go_quiet (first | (go_at_call 31; refine Calls.quiet_of_same (CK.out _)) | (go_at_call 32; refine Calls.quiet_of_same (CA.out _)))
              go_wp2
              go_roundw
              case rel => exact ⟨1, by omega, by go_num, HR.out hz, hb.trans (dr _ _)⟩
              case measure => simp [intOf]; omega
    · go_wp2
      go_ret
      exact ⟨ret_bool (by rw [HY.out fun i hi => hst.out i (by omega), Bool.eq_iff_iff]; simp; omega), hb⟩
end Go.Proofs.Ytnlignfmicincaa
