/-
  The exact law of Tiles: its walk.
-/
import Derived.Test.YtfaaopcmgadkjaaTls2
import Derived.Test.YtfaaopcmgadkjaaTls3
namespace Go.Proofs.Ytfaaopcmgadkjaa
open Go.RowKit Go.PlainAid
theorem iqShort_of {l : List IpV} (h : iqTot l ≤ 1048576) : iqShort l := fun i hi => by
  have h1 := iqTot_take l i hi
  have h2 := iqTot_le l (i + 1)
  unfold iqSz at h1
  omega
set_option maxRecDepth 100000 in
set_option maxHeartbeats 3200000 in
theorem walk_FnExactTiles (T : Option Addr) (c : Nat) (l : List IpV) (w : World) (h : CellsAt w T (iqF l)) (hm : l.length ≤ maxLen) (hlong : iqLong l) :
    Calls Try.prog 5 #[.slice T l.length c] w fun e w' => e = .returned (.bool true) ∧ Below w.heap.size w w' := by
  unfold maxLen at hm
  by_cases hz : l.length + iqTot l ≤ 1048576
  · have CZ : Hid (∀ u : World, Below w.heap.size w u → Calls Try.prog 22 #[.slice T l.length c, .int .i64 1048576] u fun e w' => e = .returned (.int .i64 (1048576 - (l.length : Int) - (iqTot l : Int))) ∧ Below u.heap.size u w') := fun u hb => l_szIpS_yes T c l u (h.below hb) hz
    have CT : Hid (∀ u : World, Below w.heap.size w u → Calls Try.prog 24 #[.slice T l.length c] u fun e w' => ∃ g, e = .returned (.slice (some ⟨g, 0, none⟩) l.length l.length) ∧ ownV w' u.heap.size 31 11 (.slice (some ⟨g, 0, none⟩) l.length l.length) l.length (iqF l) ∧ Below u.heap.size u w') := fun u hb => l_toIpS T c l u (h.below hb) (by omega)
    have hsh : iqShort l := iqShort_of (by omega)
    have CS : Hid (∀ (g : Nat) (u : World), CellsAt u (some ⟨g, 0, none⟩) (iqF l) → Calls Try.prog 23 #[.slice (some ⟨g, 0, none⟩) l.length l.length] u fun e w' => e = .returned (.bool (tlOk l)) ∧ Below u.heap.size u w') := fun g u h1 => s_Tiles _ _ l u h1 (by omega) hsh
    have CI : Hid (∀ (g : Nat) (u : World), CellsAt u (some ⟨g, 0, none⟩) (iqF l) → Calls Try.prog 25 #[.slice (some ⟨g, 0, none⟩) l.length l.length] u fun e w' => e = .returned (.bool (tlOk l)) ∧ Below u.heap.size u w') := fun g u h1 => i_Tiles _ _ l u h1 (by omega) hsh
    have CE : Hid (∀ (g g2 : Nat) (u : World), CellsAt u (some ⟨g, 0, none⟩) (iqF l) → CellsAt u (some ⟨g2, 0, none⟩) (iqF l) → Calls Try.prog 19 #[.slice (some ⟨g, 0, none⟩) l.length l.length, .slice (some ⟨g2, 0, none⟩) l.length l.length] u fun e w' => e = .returned (.bool true) ∧ Below u.heap.size u w') := fun g g2 u h1 h2 => l_eqIpS _ _ _ _ l u h1 h2 (by omega)
    generalize tlOk l = fo at *
    obtain ⟨lf, hlf, hlf'⟩ : ∃ lf : Int, lf ≤ 1048576 - (l.length : Int) - (iqTot l : Int) ∧ 1048576 - (l.length : Int) - (iqTot l : Int) ≤ lf := ⟨_, Int.le_refl _, Int.le_refl _⟩
    rw [show 1048576 - (l.length : Int) - (iqTot l : Int) = lf from by omega] at CZ
    have hlf0 : 0 ≤ lf := by omega
    go_enter Try.func5, Try.ntmps5
    have hB := Below.refl w.heap.size w
    go_wp2_with fail
    go_at_call 22
    refine (CZ.out _ hB).mono ?_
    rintro e w0 ⟨rfl, hb⟩
    replace hB := hB.trans (hb.mono hB.size)
    clear hb
    go_wp2_with fail
    go_at_call 24
    refine (CT.out _ hB).mono ?_
    rintro e w1 ⟨g1, rfl, ho1, hb⟩
    replace hB := hB.trans (hb.mono hB.size)
    clear hb
    go_wp2_with fail
    go_at_call 23
    refine (CS.out _ _ ho1.reads.2).mono ?_
    rintro e w2 ⟨rfl, hb⟩
    replace hB := hB.trans (hb.mono hB.size)
    clear hb ho1
    go_wp2_with fail
    go_at_call 24
    refine (CT.out _ hB).mono ?_
    rintro e w3 ⟨g2, rfl, ho2, hb⟩
    replace hB := hB.trans (hb.mono hB.size)
    clear hb
    go_wp2_with fail
    go_at_call 25
    refine (CI.out _ _ ho2.reads.2).mono ?_
    rintro e w4 ⟨rfl, hb⟩
    replace hB := hB.trans (hb.mono hB.size)
    replace ho2 := ho2.far hb
    clear hb
    have hfo : (fo != fo) = false := by simp
    go_wp2_with fail
    go_at_call 24
    refine (CT.out _ hB).mono ?_
    rintro e w5 ⟨g3, rfl, ho3, hb⟩
    replace hB := hB.trans (hb.mono hB.size)
    replace ho2 := ho2.far hb
    clear hb
    go_wp2_with fail
    go_at_call 19
    refine (CE.out _ _ _ ho2.reads.2 ho3.reads.2).mono ?_
    rintro e w6 ⟨rfl, hb⟩
    replace hB := hB.trans (hb.mono hB.size)
    clear hb
    go_wp2
    go_ret
    exact ⟨rfl, hB⟩
  · have CZ : Hid (∀ u : World, Below w.heap.size w u → Calls Try.prog 22 #[.slice T l.length c, .int .i64 1048576] u fun e w' => e = .returned (.int .i64 (-1)) ∧ Below u.heap.size u w') := fun u hb => l_szIpS_no T c l u (h.below hb) (by omega) hlong (by omega)
    go_enter Try.func5, Try.ntmps5
    have hB := Below.refl w.heap.size w
    go_wp2_with fail
    go_at_call 22
    refine (CZ.out _ hB).mono ?_
    rintro e w0 ⟨rfl, hb⟩
    replace hB := hB.trans (hb.mono hB.size)
    clear hb
    go_wp2
    go_ret
    exact ⟨rfl, hB⟩
end Go.Proofs.Ytfaaopcmgadkjaa
