/-
  The exact law on what is read as an MPLS.
-/
import Derived.Test.YtmaonnhfbonoeaaMpl5
namespace Go.Proofs.Ytmaonnhfbonoeaa
open Go.RowKit Go.PlainAid
set_option maxRecDepth 100000 in
set_option maxHeartbeats 6400000 in
theorem walk_FnExactReadMpls (s : ByteArray) (hs : s.size ≤ maxLen) (w : World) :
    Calls Try.prog 10 #[.string s] w fun e w' => e = .returned (.bool true) ∧ Below w.heap.size w w' := by
  unfold maxLen at hs
  by_cases hz : 1048576 < s.size
  · go_enter Try.func10, Try.ntmps10
    go_wp2
    go_ret
    exact ⟨rfl, Below.refl _ _⟩
  · have CS : Hid (∀ u : World, Calls Try.prog 38 #[.string s] u fun e w' => ∃ v, e = .returned (.tuple #[v, .string (mpD s), .int .i64 (mpC s)]) ∧ ownR w' u.heap.size 61 3 v (mpR s).length (lbF (mpR s)) ∧ Below u.heap.size u w') := fun u => s_ReadMpls s u (by omega)
    have CI : Hid (∀ u : World, Calls Try.prog 39 #[.string s] u fun e w' => ∃ v, e = .returned (.tuple #[v, .string (mpD s), .int .i64 (mpC s)]) ∧ ownR w' u.heap.size 61 3 v (mpR s).length (lbF (mpR s)) ∧ Below u.heap.size u w') := fun u => i_ReadMpls s u (by omega)
    have CE : Hid (∀ (m : List LbV) (S1 S2 : Option Addr) (c1 c2 : Nat) (u : World), m.length ≤ 1099511627776 → IntsAt u S1 (lbF m) → IntsAt u S2 (lbF m) → Calls Try.prog 37 #[.slice S1 m.length c1, .slice S2 m.length c2] u fun e w' => e = .returned (.bool true) ∧ Below u.heap.size u w') := fun m S1 S2 c1 c2 u hm h1 h2 => l_eqLabelS S1 S2 c1 c2 m u h1 h2 hm
    have hrl := mpR_len s
    generalize mpR s = pr at *
    generalize mpC s = pc at *
    generalize mpD s = pd at *
    have hpc : (pc != pc) = false := by simp
    go_enter Try.func10, Try.ntmps10
    go_wp2_with fail
    go_at_call 38
    refine (CS.out _).mono ?_
    rintro e w1 ⟨vW, rfl, hW, hB⟩
    obtain ⟨TW, cW, rfl⟩ := hW.form
    have lW := World.ownsRow.lt hW
    go_wp2_with fail
    go_at_call 39
    refine (CI.out _).mono ?_
    rintro e w2 ⟨vG, rfl, hG, hb⟩
    obtain ⟨TG, cG, rfl⟩ := hG.form
    have lG := World.ownsRow.lt hG
    have bG := hB.size
    replace hW := hW.far hb
    replace hB := hB.trans (hb.mono hB.size)
    clear hb
    go_wp2_with fail
    go_at_call 37
    refine (CE.out pr _ _ _ _ _ (by omega) hG.reads.2 hW.reads.2).mono ?_
    rintro e w3 ⟨rfl, hb⟩
    replace hW := hW.far hb
    replace hG := hG.far hb
    replace hB := hB.trans (hb.mono hB.size)
    clear hb
    have CM2 : Hid (∀ u : World, u = w3 → Calls Try.prog 40 #[.slice TG pr.length cG, .int .i64 1] u fun e w' => e = .returned (.int .i64 (1 + (pr.length : Int) * 3)) ∧ ownR w' w1.heap.size 61 3 (.slice TG pr.length cG) pr.length (marks (pr.length * 3)) ∧ u.grownBy w' (Value.slice TG pr.length cG).ownBlock) := by
      rintro u rfl; exact l_markLabelS _ _ _ _ _ u hG (by omega)
    go_wp2_with fail
    go_at_call 40
    refine (CM2.out _ rfl).mono ?_
    rintro e w4 ⟨rfl, hM, hg⟩
    replace hW := own_kept hW hg (fun b hb => by have := (lW b hb).2; intro hx; have := (lG b hx).1; omega)
    replace hB := hB.grown hg hB.size (fun b hb => by have := (lG b hb).1; omega)
    clear CM2 hG hg
    have CH : Hid (∀ u : World, ownR u w1.heap.size 61 3 (.slice TG pr.length cG) pr.length (marks (pr.length * 3)) → Calls Try.prog 41 #[.slice TG pr.length cG, .int .i64 1] u fun e w' => e = .returned (.int .i64 (1 + (pr.length : Int) * 3)) ∧ Below u.heap.size u w') := fun u hu => l_heldLabelS _ _ _ _ u hu (by omega)
    have hq1 : ¬ (1 + (pr.length : Int) * 3 < 0) := by omega
    have hq2 : ((1 + (pr.length : Int) * 3) != (1 + (pr.length : Int) * 3)) = false := by simp
    go_wp2_with fail
    go_at_call 41
    refine (CH.out _ hM).mono ?_
    rintro e w5 ⟨rfl, hb⟩
    replace hW := hW.far hb
    replace hM := hM.far hb
    replace hB := hB.trans (hb.mono hB.size)
    clear hb
    go_wp2_with fail
    go_at_call 39
    refine (CI.out _).mono ?_
    rintro e w6 ⟨vK, rfl, hK, hb⟩
    obtain ⟨TK, cK, rfl⟩ := hK.form
    replace hW := hW.far hb
    replace hM := hM.far hb
    replace hB := hB.trans (hb.mono hB.size)
    clear hb
    go_wp2_with fail
    go_at_call 37
    refine (CE.out pr _ _ _ _ _ (by omega) hK.reads.2 hW.reads.2).mono ?_
    rintro e w7 ⟨rfl, hb⟩
    replace hM := hM.far hb
    replace hB := hB.trans (hb.mono hB.size)
    clear hb
    go_wp2_with fail
    go_at_call 41
    refine (CH.out _ hM).mono ?_
    rintro e w8 ⟨rfl, hb⟩
    replace hB := hB.trans (hb.mono hB.size)
    clear hb
    go_wp2
    go_ret
    exact ⟨rfl, hB⟩
end Go.Proofs.Ytmaonnhfbonoeaa
