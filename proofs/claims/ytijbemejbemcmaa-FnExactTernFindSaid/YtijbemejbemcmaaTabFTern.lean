/-
  What the program finds by the rule Tern; the exact law on it.
-/
import Derived.Test.YtijbemejbemcmaaTabSTern
namespace Go.Proofs.Ytijbemejbemcmaa
open Go.RowKit Go.PlainAid
set_option maxRecDepth 100000 in
set_option maxHeartbeats 1600000 in
theorem i_TernFind (T : Option Addr) (c : Nat) (l : List TnV) (key : Int) (w : World) (h : IntsAt w T (tnF l)) (hl : l.length ≤ 1099511627776) :
    Calls Try.prog 38 #[.slice T l.length c, .int .i64 key] w fun e w' => e = .returned (.int .i64 (tnFound l key)) ∧ Below w.heap.size w w' := by
  have CF : Hid (∀ u : World, u = w → Calls Try.prog 68 #[.slice T l.length c, .int .i64 key] u fun e w' => ∃ v, e = .returned v ∧ ownR w' u.heap.size 84 4 v (tnFilt l key).length (tnF (tnFilt l key)) ∧ Below u.heap.size u w') := by
    rintro u rfl; exact i_tnFitting T c l key u h hl
  have hle := tnFilt_le l key
  have HF : Hid (tnFound l key = ((tnFilt l key).head?.map (·.act)).getD 0) := rfl
  generalize tnFilt l key = fl at *
  generalize tnFound l key = fo at *
  go_enter Try.func38, Try.ntmps38
  go_wp2_with fail
  go_at_call 68
  refine (CF.out _ rfl).mono ?_
  rintro e w1 ⟨v, rfl, hown, hb⟩
  clear CF
  by_cases h0 : fl.length = 0
  · have hn : fl = [] := List.eq_nil_of_length_eq_zero h0
    subst hn
    rcases hown.shape with ⟨rfl, _, _⟩ | ⟨g, cap, rfl, _⟩
    · go_wp2
      go_ret
      exact ⟨ret_i64 HF.out.symm, hb⟩
    · go_wp2
      go_ret
      exact ⟨ret_i64 HF.out.symm, hb⟩
  · rcases hown.shape with ⟨_, h1, _⟩ | ⟨g, cap, rfl, hB, hg, _⟩
    · omega
    · have hn0 : ¬ ((fl.length : Int) = 0) := by omega
      have hn2 : ((fl.length : Int) == 0) = false := by rw [beq_eq_false_iff_ne]; exact hn0
      have hr := hown.cell (0 * 4 + 3) (by omega)
      have ha := (tnF_at fl 0 (by omega)).2.2.2
      rw [ha] at hr

      have hfo : fo = (tnA fl 0).act := by
        rw [HF.out, List.head?_eq_getElem?, List.getElem?_eq_getElem (show 0 < fl.length by omega), tnA_eq fl _ (by omega)]; rfl
      have hp0 : (0 : Int) < (fl.length : Int) := by omega
      simp only [Nat.zero_mul, Nat.zero_add] at hr
      generalize tnA fl 0 = b at *
      go_wp2
      go_ret
      exact ⟨ret_i64 hfo.symm, hb⟩
set_option maxRecDepth 100000 in
set_option maxHeartbeats 1600000 in
theorem walk_FnExactTernFind (T : Option Addr) (c : Nat) (l : List TnV) (key : Int) (w : World) (h : IntsAt w T (tnF l)) (hl : l.length ≤ maxLen) (_w1 : (Lit.int .i64 key).wf = true) :
    Calls Try.prog 8 #[.slice T l.length c, .int .i64 key] w fun e w' => e = .returned (.bool true) ∧ Below w.heap.size w w' := by
  unfold maxLen at hl
  have CZ : Hid (∀ u : World, Calls Try.prog 30 #[.slice T l.length c, .int .i64 1048576] u fun e w' => e = .returned (.int .i64 (if l.length ≤ 1048576 then 1048576 - (l.length : Int) else -1)) ∧ w' = u) := fun u => l_szTern T l.length c u (by omega)
  by_cases hz : l.length ≤ 1048576
  · rw [if_pos hz] at CZ
    have CT : Hid (∀ u : World, Below w.heap.size w u → Calls Try.prog 32 #[.slice T l.length c] u fun e w' => ∃ g, e = .returned (.slice (some ⟨g, 0, none⟩) l.length l.length) ∧ ownR w' u.heap.size 84 4 (.slice (some ⟨g, 0, none⟩) l.length l.length) l.length (tnF l) ∧ Below u.heap.size u w') := fun u hu => l_toTernS T c l u (h.below hu) hz
    have CS : Hid (∀ (g : Nat) (u : World), IntsAt u (some ⟨g, 0, none⟩) (tnF l) → Calls Try.prog 37 #[.slice (some ⟨g, 0, none⟩) l.length l.length, .int .i64 key] u fun e w' => e = .returned (.int .i64 (tnFound l key)) ∧ Below u.heap.size u w') := fun g u hu => s_TernFind _ _ l key u hu (by omega)
    have CI : Hid (∀ (g : Nat) (u : World), IntsAt u (some ⟨g, 0, none⟩) (tnF l) → Calls Try.prog 38 #[.slice (some ⟨g, 0, none⟩) l.length l.length, .int .i64 key] u fun e w' => e = .returned (.int .i64 (tnFound l key)) ∧ Below u.heap.size u w') := fun g u hu => i_TernFind _ _ l key u hu (by omega)
    have CE : Hid (∀ (g g2 : Nat) (u : World), IntsAt u (some ⟨g, 0, none⟩) (tnF l) → IntsAt u (some ⟨g2, 0, none⟩) (tnF l) → Calls Try.prog 34 #[.slice (some ⟨g, 0, none⟩) l.length l.length, .slice (some ⟨g2, 0, none⟩) l.length l.length] u fun e w' => e = .returned (.bool true) ∧ Below u.heap.size u w') := fun g g2 u h1 h2 => l_eqTernS _ _ _ _ l u h1 h2 (by omega)
    generalize tnFound l key = fo at *
    go_enter Try.func8, Try.ntmps8
    go_wp2_with fail
    go_at_call 30
    refine (CZ.out _).mono ?_
    rintro e wz ⟨rfl, hz1⟩
    rw [hz1]
    clear hz1 wz
    have hB := Below.refl w.heap.size w
    go_wp2_with fail
    go_at_call 32
    refine (CT.out _ hB).mono ?_
    rintro e w1 ⟨g1, rfl, ho1, hb⟩
    replace hB := hB.trans (hb.mono hB.size)
    clear hb
    go_wp2_with fail
    go_at_call 37
    refine (CS.out _ _ ho1.reads.2).mono ?_
    rintro e w2 ⟨rfl, hb⟩
    replace hB := hB.trans (hb.mono hB.size)
    clear hb ho1
    go_wp2_with fail
    go_at_call 32
    refine (CT.out _ hB).mono ?_
    rintro e w3 ⟨g2, rfl, ho2, hb⟩
    replace hB := hB.trans (hb.mono hB.size)
    clear hb
    go_wp2_with fail
    go_at_call 38
    refine (CI.out _ _ ho2.reads.2).mono ?_
    rintro e w4 ⟨rfl, hb⟩
    replace hB := hB.trans (hb.mono hB.size)
    replace ho2 := ho2.far hb
    clear hb
    have hfo : (fo != fo) = false := by simp
    go_wp2_with fail
    go_at_call 32
    refine (CT.out _ hB).mono ?_
    rintro e w5 ⟨g3, rfl, ho3, hb⟩
    replace hB := hB.trans (hb.mono hB.size)
    replace ho2 := ho2.far hb
    clear hb
    go_wp2_with fail
    go_at_call 34
    refine (CE.out _ _ _ ho2.reads.2 ho3.reads.2).mono ?_
    rintro e w6 ⟨rfl, hb⟩
    replace hB := hB.trans (hb.mono hB.size)
    clear hb
    go_wp2
    go_ret
    exact ⟨rfl, hB⟩
  · rw [if_neg hz] at CZ
    go_enter Try.func8, Try.ntmps8
    go_wp2_with (go_at_call 30; refine (CZ.out _).mono ?_; rintro e wz ⟨rfl, hz1⟩; rw [hz1]; clear hz1 wz)
    go_ret
    exact ⟨rfl, Below.refl _ _⟩
end Go.Proofs.Ytijbemejbemcmaa
