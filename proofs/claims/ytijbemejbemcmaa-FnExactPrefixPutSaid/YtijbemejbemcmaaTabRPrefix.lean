/-
  The exact laws on what is put and dropped by the rule Prefix.
-/
import Derived.Test.YtijbemejbemcmaaTabQPrefix
namespace Go.Proofs.Ytijbemejbemcmaa
open Go.RowKit Go.PlainAid
set_option maxRecDepth 100000 in
set_option maxHeartbeats 6400000 in
theorem walk_FnExactPrefixPut (T : Option Addr) (c : Nat) (l : List PfV) (a0 : Int) (a1 : Int) (a2 : Int) (w : World) (h : IntsAt w T (pfF l)) (hl : l.length ≤ maxLen) (_w1 : (Lit.int .i64 a0).wf = true) (_w2 : (Lit.int .i64 a1).wf = true) (_w3 : (Lit.int .i64 a2).wf = true) :
    Calls Try.prog 5 #[.slice T l.length c, .int .i64 a0, .int .i64 a1, .int .i64 a2] w fun e w' => e = .returned (.bool true) ∧ Below w.heap.size w w' := by
  unfold maxLen at hl
  have CZ : Hid (∀ u : World, Calls Try.prog 21 #[.slice T l.length c, .int .i64 1048576] u fun e w' => e = .returned (.int .i64 (if l.length ≤ 1048576 then 1048576 - (l.length : Int) else -1)) ∧ w' = u) := fun u => l_szPrefix T l.length c u (by omega)
  by_cases hz : l.length ≤ 1048576
  · rw [if_pos hz] at CZ
    have CT : Hid (∀ u : World, Below w.heap.size w u → Calls Try.prog 23 #[.slice T l.length c] u fun e w' => ∃ g, e = .returned (.slice (some ⟨g, 0, none⟩) l.length l.length) ∧ ownR w' u.heap.size 74 3 (.slice (some ⟨g, 0, none⟩) l.length l.length) l.length (pfF l) ∧ Below u.heap.size u w') := fun u hu => l_toPrefixS T c l u (h.below hu) hz
    have CS : Hid (∀ (g : Nat) (u : World), IntsAt u (some ⟨g, 0, none⟩) (pfF l) → Calls Try.prog 22 #[.slice (some ⟨g, 0, none⟩) l.length l.length, .int .i64 a0, .int .i64 a1, .int .i64 a2] u fun e w' => ∃ v, e = .returned (.tuple #[v, .int .i64 (pfLC l a0 a1 a2)]) ∧ ownR w' u.heap.size 74 3 v (pfLR l a0 a1 a2).length (pfF (pfLR l a0 a1 a2)) ∧ Below u.heap.size u w') := fun g u hu => s_PrefixPut _ _ l a0 a1 a2 u hu hz
    have CI : Hid (∀ (g : Nat) (u : World), IntsAt u (some ⟨g, 0, none⟩) (pfF l) → Calls Try.prog 24 #[.slice (some ⟨g, 0, none⟩) l.length l.length, .int .i64 a0, .int .i64 a1, .int .i64 a2] u fun e w' => ∃ v, e = .returned (.tuple #[v, .int .i64 (pfLC l a0 a1 a2)]) ∧ ownR w' u.heap.size 74 3 v (pfLR l a0 a1 a2).length (pfF (pfLR l a0 a1 a2)) ∧ Below u.heap.size u w') := fun g u hu => i_PrefixPut _ _ _ l a0 a1 a2 u hu (Nat.le_refl _) hz
    have CE : Hid (∀ (m : List PfV) (S1 S2 : Option Addr) (c1 c2 : Nat) (u : World), m.length ≤ 1099511627776 → IntsAt u S1 (pfF m) → IntsAt u S2 (pfF m) → Calls Try.prog 25 #[.slice S1 m.length c1, .slice S2 m.length c2] u fun e w' => e = .returned (.bool true) ∧ Below u.heap.size u w') := fun m S1 S2 c1 c2 u hm h1 h2 => l_eqPrefixS S1 S2 c1 c2 m u h1 h2 hm
    have hrl := pfPut_len l a0 a1 a2
    generalize (pfLR l a0 a1 a2) = pr at *
    generalize (pfLC l a0 a1 a2) = pc at *
    have hpc : (pc != pc) = false := by simp
    go_enter Try.func5, Try.ntmps5
    go_wp2_with fail
    go_at_call 21
    refine (CZ.out _).mono ?_
    rintro e wz ⟨rfl, hz1⟩
    rw [hz1]
    clear hz1 wz
    have hB := Below.refl w.heap.size w
    go_wp2_with fail
    go_at_call 23
    refine (CT.out _ hB).mono ?_
    rintro e w1 ⟨g1, rfl, ho1, hb⟩
    replace hB := hB.trans (hb.mono hB.size)
    clear hb
    go_wp2_with fail
    go_at_call 22
    refine (CS.out _ _ ho1.reads.2).mono ?_
    rintro e w2 ⟨vW, rfl, hW, hb⟩
    obtain ⟨TW, cW, rfl⟩ := hW.form
    have lW := World.ownsRow.lt hW
    have bW := Nat.le_trans hB.size (Nat.le_refl w1.heap.size)
    replace hB := hB.trans (hb.mono hB.size)
    clear hb ho1
    go_wp2_with fail
    go_at_call 23
    refine (CT.out _ hB).mono ?_
    rintro e w3 ⟨g2, rfl, hX, hb⟩
    have lX := World.ownsRow.lt hX
    have b23 := hb.size
    have bX := hB.size
    replace hW := hW.far hb
    replace hB := hB.trans (hb.mono hB.size)
    clear hb
    go_wp2_with fail
    go_at_call 24
    refine (CI.out _ _ hX.reads.2).mono ?_
    rintro e w4 ⟨vG, rfl, hG, hb⟩
    obtain ⟨TG, cG, rfl⟩ := hG.form
    have lG := World.ownsRow.lt hG
    have bG := hB.size
    replace hW := hW.far hb
    replace hX := hX.far hb
    replace hB := hB.trans (hb.mono hB.size)
    clear hb
    go_wp2_with fail
    go_at_call 25
    refine (CE.out pr _ _ _ _ _ (by omega) hG.reads.2 hW.reads.2).mono ?_
    rintro e w5 ⟨rfl, hb⟩
    replace hW := hW.far hb
    replace hX := hX.far hb
    replace hG := hG.far hb
    replace hB := hB.trans (hb.mono hB.size)
    clear hb
    go_wp2_with fail
    go_at_call 23
    refine (CT.out _ hB).mono ?_
    rintro e w6 ⟨g3, rfl, hY, hb⟩
    replace hW := hW.far hb
    replace hX := hX.far hb
    replace hG := hG.far hb
    replace hB := hB.trans (hb.mono hB.size)
    clear hb
    go_wp2_with fail
    go_at_call 25
    refine (CE.out l _ _ _ _ _ (by omega) hX.reads.2 hY.reads.2).mono ?_
    rintro e w7 ⟨rfl, hb⟩
    clear hY
    replace hW := hW.far hb
    replace hX := hX.far hb
    replace hG := hG.far hb
    replace hB := hB.trans (hb.mono hB.size)
    clear hb
    have CM1 : Hid (∀ u : World, u = w7 → Calls Try.prog 26 #[.slice (some ⟨g2, 0, none⟩) l.length l.length, .int .i64 1] u fun e w' => e = .returned (.int .i64 (1 + (l.length : Int) * 3)) ∧ ownR w' w2.heap.size 74 3 (.slice (some ⟨g2, 0, none⟩) l.length l.length) l.length (marks (l.length * 3)) ∧ u.grownBy w' (Value.slice (some ⟨g2, 0, none⟩) l.length l.length).ownBlock) := by
      rintro u rfl; exact l_markPrefixS _ _ _ _ _ u hX (by omega)
    go_wp2_with fail
    go_at_call 26
    refine (CM1.out _ rfl).mono ?_
    rintro e w8 ⟨rfl, _, hg⟩
    replace hW := own_kept hW hg (fun b hb => by have := (lW b hb).2; have := bX; intro hx; have := (lX b hx).1; omega)
    replace hG := own_kept hG hg (fun b hb => by have := (lG b hb).1; intro hx; have := (lX b hx).2; omega)
    replace hB := hB.grown hg hB.size (fun b hb => by have := (lX b hb).1; omega)
    clear CM1 hX hg
    have hk1 : ¬ (1 + (l.length : Int) * 3 < 0) := by omega
    have hk2 : decide (1 + (l.length : Int) * 3 < 0) = false := by simp; omega
    go_wp2_with fail
    go_at_call 25
    refine (CE.out pr _ _ _ _ _ (by omega) hG.reads.2 hW.reads.2).mono ?_
    rintro e w9 ⟨rfl, hb⟩
    replace hW := hW.far hb
    replace hG := hG.far hb
    replace hB := hB.trans (hb.mono hB.size)
    clear hb
    have CM2 : Hid (∀ u : World, u = w9 → Calls Try.prog 26 #[.slice TG pr.length cG, .int .i64 1] u fun e w' => e = .returned (.int .i64 (1 + (pr.length : Int) * 3)) ∧ ownR w' w3.heap.size 74 3 (.slice TG pr.length cG) pr.length (marks (pr.length * 3)) ∧ u.grownBy w' (Value.slice TG pr.length cG).ownBlock) := by
      rintro u rfl; exact l_markPrefixS _ _ _ _ _ u hG (by omega)
    go_wp2_with fail
    go_at_call 26
    refine (CM2.out _ rfl).mono ?_
    rintro e w10 ⟨rfl, hM, hg⟩
    replace hW := own_kept hW hg (fun b hb => by have := (lW b hb).2; intro hx; have := (lG b hx).1; omega)
    replace hB := hB.grown hg hB.size (fun b hb => by have := (lG b hb).1; omega)
    clear CM2 hG hg
    have CH : Hid (∀ u : World, ownR u w3.heap.size 74 3 (.slice TG pr.length cG) pr.length (marks (pr.length * 3)) → Calls Try.prog 27 #[.slice TG pr.length cG, .int .i64 1] u fun e w' => e = .returned (.int .i64 (1 + (pr.length : Int) * 3)) ∧ Below u.heap.size u w') := fun u hu => l_heldPrefixS _ _ _ _ u hu (by omega)
    have hq1 : ¬ (1 + (pr.length : Int) * 3 < 0) := by omega
    have hq2 : ((1 + (pr.length : Int) * 3) != (1 + (pr.length : Int) * 3)) = false := by simp
    go_wp2_with fail
    go_at_call 27
    refine (CH.out _ hM).mono ?_
    rintro e w11 ⟨rfl, hb⟩
    replace hW := hW.far hb
    replace hM := hM.far hb
    replace hB := hB.trans (hb.mono hB.size)
    clear hb
    go_wp2_with fail
    go_at_call 23
    refine (CT.out _ hB).mono ?_
    rintro e w12 ⟨g4, rfl, hY, hb⟩
    replace hW := hW.far hb
    replace hM := hM.far hb
    replace hB := hB.trans (hb.mono hB.size)
    clear hb
    go_wp2_with fail
    go_at_call 24
    refine (CI.out _ _ hY.reads.2).mono ?_
    rintro e w13 ⟨vK, rfl, hK, hb⟩
    obtain ⟨TK, cK, rfl⟩ := hK.form
    clear hY
    replace hW := hW.far hb
    replace hM := hM.far hb
    replace hB := hB.trans (hb.mono hB.size)
    clear hb
    go_wp2_with fail
    go_at_call 25
    refine (CE.out pr _ _ _ _ _ (by omega) hK.reads.2 hW.reads.2).mono ?_
    rintro e w14 ⟨rfl, hb⟩
    replace hM := hM.far hb
    replace hB := hB.trans (hb.mono hB.size)
    clear hb
    go_wp2_with fail
    go_at_call 27
    refine (CH.out _ hM).mono ?_
    rintro e w15 ⟨rfl, hb⟩
    replace hB := hB.trans (hb.mono hB.size)
    clear hb
    go_wp2
    go_ret
    exact ⟨rfl, hB⟩
  · rw [if_neg hz] at CZ
    go_enter Try.func5, Try.ntmps5
    go_wp2_with (go_at_call 21; refine (CZ.out _).mono ?_; rintro e wz ⟨rfl, hz1⟩; rw [hz1]; clear hz1 wz)
    go_ret
    exact ⟨rfl, Below.refl _ _⟩
end Go.Proofs.Ytijbemejbemcmaa
