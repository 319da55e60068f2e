/-
  What the program finds by the rule Prefix; the exact law on it.
-/
import Derived.Test.YtijbemejbemcmaaTabSPrefix
namespace Go.Proofs.Ytijbemejbemcmaa
open Go.RowKit Go.PlainAid
set_option maxRecDepth 100000 in
set_option maxHeartbeats 1600000 in
theorem i_PrefixFind (T : Option Addr) (c : Nat) (l : List PfV) (key : Int) (w : World) (h : IntsAt w T (pfF l)) (hl : l.length ≤ 1099511627776) :
    Calls Try.prog 29 #[.slice T l.length c, .int .i64 key] w fun e w' => e = .returned (.int .i64 (pfFound l key)) ∧ Below w.heap.size w w' := by
  have CF : Hid (∀ u : World, u = w → Calls Try.prog 61 #[.slice T l.length c, .int .i64 key] u fun e w' => ∃ v, e = .returned v ∧ ownR w' u.heap.size 74 3 v (pfFilt l key).length (pfF (pfFilt l key)) ∧ Below u.heap.size u w') := by
    rintro u rfl; exact i_pfFitting T c l key u h hl
  have hle := pfFilt_le l key
  have HF : Hid (pfFound l key = ((pfFilt l key).getLast?.map (·.act)).getD 0) := rfl
  generalize pfFilt l key = fl at *
  generalize pfFound l key = fo at *
  go_enter Try.func29, Try.ntmps29
  go_wp2_with fail
  go_at_call 61
  refine (CF.out _ rfl).mono ?_
  rintro e w1 ⟨v, rfl, hown, hb⟩
  clear CF
  by_cases h0 : fl.length = 0
  · have hn : fl = [] := List.eq_nil_of_length_eq_zero h0
    subst hn
    rcases hown.shape with ⟨rfl, _, _⟩ | ⟨g, cap, rfl, _⟩
    · go_wp2
      go_ret
      exact ⟨ret_i64 HF.out.symm, hb⟩
    · go_wp2
      go_ret
      exact ⟨ret_i64 HF.out.symm, hb⟩
  · rcases hown.shape with ⟨_, h1, _⟩ | ⟨g, cap, rfl, hB, hg, _⟩
    · omega
    · have hn0 : ¬ ((fl.length : Int) = 0) := by omega
      have hn2 : ((fl.length : Int) == 0) = false := by rw [beq_eq_false_iff_ne]; exact hn0
      have hr := hown.cell ((fl.length - 1) * 3 + 2) (by omega)
      have ha := (pfF_at fl (fl.length - 1) (by omega)).2.2
      rw [ha] at hr

      have hfo : fo = (pfA fl (fl.length - 1)).act := by
        rw [HF.out, List.getLast?_eq_getElem?, List.getElem?_eq_getElem (show fl.length - 1 < fl.length by omega), pfA_eq fl _ (by omega)]; rfl
      have hj2 : (fl.length : Int) - 1 = ((fl.length - 1 : Nat) : Int) := by omega
      have hj3 : ((fl.length - 1 : Nat) : Int) < (fl.length : Int) := by omega
      generalize pfA fl (fl.length - 1) = b at *
      go_wp2
      go_ret
      exact ⟨ret_i64 hfo.symm, hb⟩
set_option maxRecDepth 100000 in
set_option maxHeartbeats 1600000 in
theorem walk_FnExactPrefixFind (T : Option Addr) (c : Nat) (l : List PfV) (key : Int) (w : World) (h : IntsAt w T (pfF l)) (hl : l.length ≤ maxLen) (_w1 : (Lit.int .i64 key).wf = true) :
    Calls Try.prog 6 #[.slice T l.length c, .int .i64 key] w fun e w' => e = .returned (.bool true) ∧ Below w.heap.size w w' := by
  unfold maxLen at hl
  have CZ : Hid (∀ u : World, Calls Try.prog 21 #[.slice T l.length c, .int .i64 1048576] u fun e w' => e = .returned (.int .i64 (if l.length ≤ 1048576 then 1048576 - (l.length : Int) else -1)) ∧ w' = u) := fun u => l_szPrefix T l.length c u (by omega)
  by_cases hz : l.length ≤ 1048576
  · rw [if_pos hz] at CZ
    have CT : Hid (∀ u : World, Below w.heap.size w u → Calls Try.prog 23 #[.slice T l.length c] u fun e w' => ∃ g, e = .returned (.slice (some ⟨g, 0, none⟩) l.length l.length) ∧ ownR w' u.heap.size 74 3 (.slice (some ⟨g, 0, none⟩) l.length l.length) l.length (pfF l) ∧ Below u.heap.size u w') := fun u hu => l_toPrefixS T c l u (h.below hu) hz
    have CS : Hid (∀ (g : Nat) (u : World), IntsAt u (some ⟨g, 0, none⟩) (pfF l) → Calls Try.prog 28 #[.slice (some ⟨g, 0, none⟩) l.length l.length, .int .i64 key] u fun e w' => e = .returned (.int .i64 (pfFound l key)) ∧ Below u.heap.size u w') := fun g u hu => s_PrefixFind _ _ l key u hu (by omega)
    have CI : Hid (∀ (g : Nat) (u : World), IntsAt u (some ⟨g, 0, none⟩) (pfF l) → Calls Try.prog 29 #[.slice (some ⟨g, 0, none⟩) l.length l.length, .int .i64 key] u fun e w' => e = .returned (.int .i64 (pfFound l key)) ∧ Below u.heap.size u w') := fun g u hu => i_PrefixFind _ _ l key u hu (by omega)
    have CE : Hid (∀ (g g2 : Nat) (u : World), IntsAt u (some ⟨g, 0, none⟩) (pfF l) → IntsAt u (some ⟨g2, 0, none⟩) (pfF l) → Calls Try.prog 25 #[.slice (some ⟨g, 0, none⟩) l.length l.length, .slice (some ⟨g2, 0, none⟩) l.length l.length] u fun e w' => e = .returned (.bool true) ∧ Below u.heap.size u w') := fun g g2 u h1 h2 => l_eqPrefixS _ _ _ _ l u h1 h2 (by omega)
    generalize pfFound l key = fo at *
    go_enter Try.func6, Try.ntmps6
    go_wp2_with fail
    go_at_call 21
    refine (CZ.out _).mono ?_
    rintro e wz ⟨rfl, hz1⟩
    rw [hz1]
    clear hz1 wz
    have hB := Below.refl w.heap.size w
    go_wp2_with fail
    go_at_call 23
    refine (CT.out _ hB).mono ?_
    rintro e w1 ⟨g1, rfl, ho1, hb⟩
    replace hB := hB.trans (hb.mono hB.size)
    clear hb
    go_wp2_with fail
    go_at_call 28
    refine (CS.out _ _ ho1.reads.2).mono ?_
    rintro e w2 ⟨rfl, hb⟩
    replace hB := hB.trans (hb.mono hB.size)
    clear hb ho1
    go_wp2_with fail
    go_at_call 23
    refine (CT.out _ hB).mono ?_
    rintro e w3 ⟨g2, rfl, ho2, hb⟩
    replace hB := hB.trans (hb.mono hB.size)
    clear hb
    go_wp2_with fail
    go_at_call 29
    refine (CI.out _ _ ho2.reads.2).mono ?_
    rintro e w4 ⟨rfl, hb⟩
    replace hB := hB.trans (hb.mono hB.size)
    replace ho2 := ho2.far hb
    clear hb
    have hfo : (fo != fo) = false := by simp
    go_wp2_with fail
    go_at_call 23
    refine (CT.out _ hB).mono ?_
    rintro e w5 ⟨g3, rfl, ho3, hb⟩
    replace hB := hB.trans (hb.mono hB.size)
    replace ho2 := ho2.far hb
    clear hb
    go_wp2_with fail
    go_at_call 25
    refine (CE.out _ _ _ ho2.reads.2 ho3.reads.2).mono ?_
    rintro e w6 ⟨rfl, hb⟩
    replace hB := hB.trans (hb.mono hB.size)
    clear hb
    go_wp2
    go_ret
    exact ⟨rfl, hB⟩
  · rw [if_neg hz] at CZ
    go_enter Try.func6, Try.ntmps6
    go_wp2_with (go_at_call 21; refine (CZ.out _).mono ?_; rintro e wz ⟨rfl, hz1⟩; rw [hz1]; clear hz1 wz)
    go_ret
    exact ⟨rfl, Below.refl _ _⟩
end Go.Proofs.Ytijbemejbemcmaa
