/-
  The exact law of PiecesOk: its walk.
-/
import Derived.Test.YtfaaopcmgadkjaaPcs1
namespace Go.Proofs.Ytfaaopcmgadkjaa
open Go.RowKit Go.PlainAid
theorem pcShort_of {l : List PcV} (h : pcTot l ≤ 1048576) : pcShort l := fun i hi => by
  have h1 := pcTot_take l i hi
  have h2 := pcTot_le l (i + 1)
  unfold pcSz at h1
  omega
set_option maxRecDepth 100000 in
set_option maxHeartbeats 3200000 in
theorem walk_FnExactPiecesOk (T : Option Addr) (c : Nat) (l : List PcV) (w : World) (h : CellsAt w T (pcF l)) (hm : l.length ≤ maxLen) (hlong : pcLong l) :
    Calls Try.prog 7 #[.slice T l.length c] w fun e w' => e = .returned (.bool true) ∧ Below w.heap.size w w' := by
  unfold maxLen at hm
  by_cases hz : l.length + pcTot l ≤ 1048576
  · have CZ : Hid (∀ u : World, Below w.heap.size w u → Calls Try.prog 29 #[.slice T l.length c, .int .i64 1048576] u fun e w' => e = .returned (.int .i64 (1048576 - (l.length : Int) - (pcTot l : Int))) ∧ Below u.heap.size u w') := fun u hb => l_szPieceS_yes T c l u (h.below hb) hz
    have CT : Hid (∀ u : World, Below w.heap.size w u → Calls Try.prog 31 #[.slice T l.length c] u fun e w' => ∃ g, e = .returned (.slice (some ⟨g, 0, none⟩) l.length l.length) ∧ ownV w' u.heap.size 101 2 (.slice (some ⟨g, 0, none⟩) l.length l.length) l.length (pcF l) ∧ Below u.heap.size u w') := fun u hb => l_toPieceS T c l u (h.below hb) (by omega)
    have hsh : pcShort l := pcShort_of (by omega)
    have CS : Hid (∀ (g : Nat) (u : World), CellsAt u (some ⟨g, 0, none⟩) (pcF l) → Calls Try.prog 30 #[.slice (some ⟨g, 0, none⟩) l.length l.length] u fun e w' => e = .returned (.bool (pcOk l)) ∧ Below u.heap.size u w') := fun g u h1 => s_PiecesOk _ _ l u h1 (by omega) hsh
    have CI : Hid (∀ (g : Nat) (u : World), CellsAt u (some ⟨g, 0, none⟩) (pcF l) → Calls Try.prog 32 #[.slice (some ⟨g, 0, none⟩) l.length l.length] u fun e w' => e = .returned (.bool (pcOk l)) ∧ Below u.heap.size u w') := fun g u h1 => i_PiecesOk _ _ l u h1 (by omega) hsh
    have CE : Hid (∀ (g g2 : Nat) (u : World), CellsAt u (some ⟨g, 0, none⟩) (pcF l) → CellsAt u (some ⟨g2, 0, none⟩) (pcF l) → Calls Try.prog 33 #[.slice (some ⟨g, 0, none⟩) l.length l.length, .slice (some ⟨g2, 0, none⟩) l.length l.length] u fun e w' => e = .returned (.bool true) ∧ Below u.heap.size u w') := fun g g2 u h1 h2 => l_eqPieceS _ _ _ _ l u h1 h2 (by omega)
    generalize pcOk l = fo at *
    obtain ⟨lf, hlf, hlf'⟩ : ∃ lf : Int, lf ≤ 1048576 - (l.length : Int) - (pcTot l : Int) ∧ 1048576 - (l.length : Int) - (pcTot l : Int) ≤ lf := ⟨_, Int.le_refl _, Int.le_refl _⟩
    rw [show 1048576 - (l.length : Int) - (pcTot l : Int) = lf from by omega] at CZ
    have hlf0 : 0 ≤ lf := by omega
    go_enter Try.func7, Try.ntmps7
    have hB := Below.refl w.heap.size w
    go_wp2_with fail
    go_at_call 29
    refine (CZ.out _ hB).mono ?_
    rintro e w0 ⟨rfl, hb⟩
    replace hB := hB.trans (hb.mono hB.size)
    clear hb
    go_wp2_with fail
    go_at_call 31
    refine (CT.out _ hB).mono ?_
    rintro e w1 ⟨g1, rfl, ho1, hb⟩
    replace hB := hB.trans (hb.mono hB.size)
    clear hb
    go_wp2_with fail
    go_at_call 30
    refine (CS.out _ _ ho1.reads.2).mono ?_
    rintro e w2 ⟨rfl, hb⟩
    replace hB := hB.trans (hb.mono hB.size)
    clear hb ho1
    go_wp2_with fail
    go_at_call 31
    refine (CT.out _ hB).mono ?_
    rintro e w3 ⟨g2, rfl, ho2, hb⟩
    replace hB := hB.trans (hb.mono hB.size)
    clear hb
    go_wp2_with fail
    go_at_call 32
    refine (CI.out _ _ ho2.reads.2).mono ?_
    rintro e w4 ⟨rfl, hb⟩
    replace hB := hB.trans (hb.mono hB.size)
    replace ho2 := ho2.far hb
    clear hb
    have hfo : (fo != fo) = false := by simp
    go_wp2_with fail
    go_at_call 31
    refine (CT.out _ hB).mono ?_
    rintro e w5 ⟨g3, rfl, ho3, hb⟩
    replace hB := hB.trans (hb.mono hB.size)
    replace ho2 := ho2.far hb
    clear hb
    go_wp2_with fail
    go_at_call 33
    refine (CE.out _ _ _ ho2.reads.2 ho3.reads.2).mono ?_
    rintro e w6 ⟨rfl, hb⟩
    replace hB := hB.trans (hb.mono hB.size)
    clear hb
    go_wp2
    go_ret
    exact ⟨rfl, hB⟩
  · have CZ : Hid (∀ u : World, Below w.heap.size w u → Calls Try.prog 29 #[.slice T l.length c, .int .i64 1048576] u fun e w' => e = .returned (.int .i64 (-1)) ∧ Below u.heap.size u w') := fun u hb => l_szPieceS_no T c l u (h.below hb) (by omega) hlong (by omega)
    go_enter Try.func7, Try.ntmps7
    have hB := Below.refl w.heap.size w
    go_wp2_with fail
    go_at_call 29
    refine (CZ.out _ hB).mono ?_
    rintro e w0 ⟨rfl, hb⟩
    replace hB := hB.trans (hb.mono hB.size)
    clear hb
    go_wp2
    go_ret
    exact ⟨rfl, hB⟩
end Go.Proofs.Ytfaaopcmgadkjaa
