/-
  The exact law of ReadGeneve: its walk.
-/
import Derived.Test.YtgbpecjgpiffmaaGnvb
import Derived.Test.YtgbpecjgpiffmaaMarkOpt
namespace Go.Proofs.Ytgbpecjgpiffmaa
open Go.RowKit Go.PlainAid
theorem rgR_len (s : ByteArray) : (rgR s).length ≤ 1020 := by
  unfold rgR rgOk
  by_cases h : rgE s ≤ s.size
  · split
    · have := rgO_len s h; omega
    · simp
  · have e : rgC s = 1 := by unfold rgC; rw [if_neg h]
    rw [e]; simp
set_option maxRecDepth 100000 in
set_option maxHeartbeats 6400000 in
theorem walk_FnExactReadGeneve (s : ByteArray) (hs : s.size ≤ maxLen) (w : World) :
    Calls Try.prog 5 #[.string s] w fun e w' => e = .returned (.bool true) ∧ Below w.heap.size w w' := by
  unfold maxLen at hs
  by_cases hz : 1048576 < s.size
  · go_enter Try.func5, Try.ntmps5
    go_wp2
    go_ret
    exact ⟨rfl, Below.refl _ _⟩
  · have CS : Hid (∀ u : World, Calls Try.prog 18 #[.string s] u fun e w' => ∃ v, e = .returned (.tuple #[.int .i64 (rgN s), v, .string (rgT s), .int .i64 (rgC s)]) ∧ ownV w' u.heap.size 48 3 v (rgR s).length (opF (rgR s)) ∧ Below u.heap.size u w') := fun u => s_ReadGeneve s u (by omega)
    have CI : Hid (∀ u : World, Calls Try.prog 19 #[.string s] u fun e w' => ∃ v, e = .returned (.tuple #[.int .i64 (rgN s), v, .string (rgT s), .int .i64 (rgC s)]) ∧ ownV w' u.heap.size 48 3 v (rgR s).length (opF (rgR s)) ∧ Below u.heap.size u w') := fun u => i_ReadGeneve s u (by omega)
    have CE : Hid (∀ (m : List OpV) (S1 S2 : Option Addr) (c1 c2 : Nat) (u : World), m.length ≤ 1099511627776 → CellsAt u S1 (opF m) → CellsAt u S2 (opF m) → Calls Try.prog 17 #[.slice S1 m.length c1, .slice S2 m.length c2] u fun e w' => e = .returned (.bool true) ∧ Below u.heap.size u w') := fun m S1 S2 c1 c2 u hm h1 h2 => l_eqOptS S1 S2 c1 c2 m u h1 h2 hm
    have hrl := rgR_len s
    generalize rgR s = pr at *
    generalize rgC s = pc at *
    generalize rgT s = pd at *
    generalize rgN s = pn at *
    have hpn : (pn != pn) = false := by simp
    have hpc : (pc != pc) = false := by simp
    go_enter Try.func5, Try.ntmps5
    go_wp2_with fail
    go_at_call 18
    refine (CS.out _).mono ?_
    rintro e w1 ⟨vW, rfl, hW, hB⟩
    obtain ⟨TW, cW, rfl⟩ := hW.form
    have lW := World.ownsRow.lt hW
    go_wp2_with fail
    go_at_call 19
    refine (CI.out _).mono ?_
    rintro e w2 ⟨vG, rfl, hG, hb⟩
    obtain ⟨TG, cG, rfl⟩ := hG.form
    have lG := World.ownsRow.lt hG
    have bG := hB.size
    replace hW := hW.far hb
    replace hB := hB.trans (hb.mono hB.size)
    clear hb
    go_wp2_with fail
    go_at_call 17
    refine (CE.out pr _ _ _ _ _ (by omega) hG.reads.2 hW.reads.2).mono ?_
    rintro e w3 ⟨rfl, hb⟩
    replace hW := hW.far hb
    replace hG := hG.far hb
    replace hB := hB.trans (hb.mono hB.size)
    clear hb
    have CM2 : Hid (∀ u : World, u = w3 → Calls Try.prog 20 #[.slice TG pr.length cG, .int .i64 1] u fun e w' => e = .returned (.int .i64 (1 + (pr.length : Int) * 3)) ∧ ownV w' w1.heap.size 48 3 (.slice TG pr.length cG) pr.length (opF (opMk pr.length)) ∧ u.grownBy w' (Value.slice TG pr.length cG).ownBlock) := by
      rintro u rfl; exact l_markOptS _ _ _ _ _ u hG (by omega)
    go_wp2_with fail
    go_at_call 20
    refine (CM2.out _ rfl).mono ?_
    rintro e w4 ⟨rfl, hM, hg⟩
    replace hW := hW.keptB hg (fun b hb => by have := (lW b hb).2; intro hx; have := (lG b hx).1; omega)
    replace hB := hB.grown hg hB.size (fun b hb => by have := (lG b hb).1; omega)
    clear CM2 hG hg
    have CH : Hid (∀ u : World, ownV u w1.heap.size 48 3 (.slice TG pr.length cG) pr.length (opF (opMk pr.length)) → Calls Try.prog 21 #[.slice TG pr.length cG, .int .i64 1] u fun e w' => e = .returned (.int .i64 (1 + (pr.length : Int) * 3)) ∧ Below u.heap.size u w') := fun u hu => l_heldOptS _ _ _ _ u hu (by omega)
    have hq1 : ¬ (1 + (pr.length : Int) * 3 < 0) := by omega
    have hq2 : ((1 + (pr.length : Int) * 3) != (1 + (pr.length : Int) * 3)) = false := by simp
    go_wp2_with fail
    go_at_call 21
    refine (CH.out _ hM).mono ?_
    rintro e w5 ⟨rfl, hb⟩
    replace hW := hW.far hb
    replace hM := hM.far hb
    replace hB := hB.trans (hb.mono hB.size)
    clear hb
    go_wp2_with fail
    go_at_call 19
    refine (CI.out _).mono ?_
    rintro e w6 ⟨vK, rfl, hK, hb⟩
    obtain ⟨TK, cK, rfl⟩ := hK.form
    replace hW := hW.far hb
    replace hM := hM.far hb
    replace hB := hB.trans (hb.mono hB.size)
    clear hb
    go_wp2_with fail
    go_at_call 17
    refine (CE.out pr _ _ _ _ _ (by omega) hK.reads.2 hW.reads.2).mono ?_
    rintro e w7 ⟨rfl, hb⟩
    replace hM := hM.far hb
    replace hB := hB.trans (hb.mono hB.size)
    clear hb
    go_wp2_with fail
    go_at_call 21
    refine (CH.out _ hM).mono ?_
    rintro e w8 ⟨rfl, hb⟩
    replace hB := hB.trans (hb.mono hB.size)
    clear hb
    go_wp2
    go_ret
    exact ⟨rfl, hB⟩
end Go.Proofs.Ytgbpecjgpiffmaa
