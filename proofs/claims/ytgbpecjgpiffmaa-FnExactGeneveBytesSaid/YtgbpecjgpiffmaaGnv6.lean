/-
  The exact law of GeneveBytes: its walk.
-/
import Derived.Test.YtgbpecjgpiffmaaGnv5
namespace Go.Proofs.Ytgbpecjgpiffmaa
open Go.RowKit Go.PlainAid
set_option maxRecDepth 100000 in
set_option maxHeartbeats 3200000 in
theorem walk_FnExactGeneveBytes (net : Int) (T : Option Addr) (c : Nat) (l : List OpV) (data : ByteArray) (w : World) (_w0 : (Lit.int .i64 net).wf = true) (h : CellsAt w T (opF l)) (hm : l.length ≤ maxLen) (hlong : opLong l) (hs : data.size ≤ maxLen) :
    Calls Try.prog 4 #[.int .i64 net, .slice T l.length c, .string data] w fun e w' => e = .returned (.bool true) ∧ Below w.heap.size w w' := by
  unfold maxLen at hm hs
  by_cases hzd : 1048576 < data.size
  · go_enter Try.func4, Try.ntmps4
    go_wp2
    go_ret
    exact ⟨rfl, Below.refl _ _⟩
  · have hzd' : ¬ (1048576 : Int) < (data.size : Int) := by omega
    by_cases hz : l.length + opTot l ≤ 1048576
    · have CZ : Hid (∀ u : World, Below w.heap.size w u → Calls Try.prog 13 #[.slice T l.length c, .int .i64 1048576] u fun e w' => e = .returned (.int .i64 (1048576 - (l.length : Int) - (opTot l : Int))) ∧ Below u.heap.size u w') := fun u hb => l_szOptS_yes T c l u (h.below hb) hz
      have CT : Hid (∀ u : World, Below w.heap.size w u → Calls Try.prog 15 #[.slice T l.length c] u fun e w' => ∃ g, e = .returned (.slice (some ⟨g, 0, none⟩) l.length l.length) ∧ ownV w' u.heap.size 48 3 (.slice (some ⟨g, 0, none⟩) l.length l.length) l.length (opF l) ∧ Below u.heap.size u w') := fun u hb => l_toOptS T c l u (h.below hb) (by omega)
      have CS : Hid (∀ (g : Nat) (u : World), CellsAt u (some ⟨g, 0, none⟩) (opF l) → Calls Try.prog 14 #[.int .i64 net, .slice (some ⟨g, 0, none⟩) l.length l.length, .string data] u fun e w' => e = .returned (.string (str (gvText net l data))) ∧ Below u.heap.size u w') := fun g u h1 => s_GeneveBytes net _ _ l data u h1 hz (by omega)
      have CI : Hid (∀ (g : Nat) (u : World), CellsAt u (some ⟨g, 0, none⟩) (opF l) → Calls Try.prog 16 #[.int .i64 net, .slice (some ⟨g, 0, none⟩) l.length l.length, .string data] u fun e w' => e = .returned (.string (str (gvText net l data))) ∧ Below u.heap.size u w') := fun g u h1 => i_GeneveBytes net _ _ l data u h1 hz (by omega)
      have CE : Hid (∀ (g g2 : Nat) (u : World), CellsAt u (some ⟨g, 0, none⟩) (opF l) → CellsAt u (some ⟨g2, 0, none⟩) (opF l) → Calls Try.prog 17 #[.slice (some ⟨g, 0, none⟩) l.length l.length, .slice (some ⟨g2, 0, none⟩) l.length l.length] u fun e w' => e = .returned (.bool true) ∧ Below u.heap.size u w') := fun g g2 u h1 h2 => l_eqOptS _ _ _ _ l u h1 h2 (by omega)
      generalize str (gvText net l data) = tx at *
      obtain ⟨lf, hlf, hlf'⟩ : ∃ lf : Int, lf ≤ 1048576 - (l.length : Int) - (opTot l : Int) ∧ 1048576 - (l.length : Int) - (opTot l : Int) ≤ lf := ⟨_, Int.le_refl _, Int.le_refl _⟩
      rw [show 1048576 - (l.length : Int) - (opTot l : Int) = lf from by omega] at CZ
      have hlf0 : 0 ≤ lf := by omega
      go_enter Try.func4, Try.ntmps4
      have hB := Below.refl w.heap.size w
      go_wp2_with fail
      go_at_call 13
      refine (CZ.out _ hB).mono ?_
      rintro e w0 ⟨rfl, hb⟩
      replace hB := hB.trans (hb.mono hB.size)
      clear hb
      go_wp2_with fail
      go_at_call 15
      refine (CT.out _ hB).mono ?_
      rintro e w1 ⟨g1, rfl, ho1, hb⟩
      replace hB := hB.trans (hb.mono hB.size)
      clear hb
      go_wp2_with fail
      go_at_call 14
      refine (CS.out _ _ ho1.reads.2).mono ?_
      rintro e w2 ⟨rfl, hb⟩
      replace hB := hB.trans (hb.mono hB.size)
      clear hb ho1
      go_wp2_with fail
      go_at_call 15
      refine (CT.out _ hB).mono ?_
      rintro e w3 ⟨g2, rfl, ho2, hb⟩
      replace hB := hB.trans (hb.mono hB.size)
      clear hb
      go_wp2_with fail
      go_at_call 16
      refine (CI.out _ _ ho2.reads.2).mono ?_
      rintro e w4 ⟨rfl, hb⟩
      replace hB := hB.trans (hb.mono hB.size)
      replace ho2 := ho2.far hb
      clear hb
      go_wp2_with fail
      go_at_call 15
      refine (CT.out _ hB).mono ?_
      rintro e w5 ⟨g3, rfl, ho3, hb⟩
      replace hB := hB.trans (hb.mono hB.size)
      replace ho2 := ho2.far hb
      clear hb
      go_wp2_with fail
      go_at_call 17
      refine (CE.out _ _ _ ho2.reads.2 ho3.reads.2).mono ?_
      rintro e w6 ⟨rfl, hb⟩
      replace hB := hB.trans (hb.mono hB.size)
      clear hb
      go_wp2
      go_ret
      exact ⟨rfl, hB⟩
    · have CZ : Hid (∀ u : World, Below w.heap.size w u → Calls Try.prog 13 #[.slice T l.length c, .int .i64 1048576] u fun e w' => e = .returned (.int .i64 (-1)) ∧ Below u.heap.size u w') := fun u hb => l_szOptS_no T c l u (h.below hb) (by omega) hlong (by omega)
      go_enter Try.func4, Try.ntmps4
      have hB := Below.refl w.heap.size w
      go_wp2_with fail
      go_at_call 13
      refine (CZ.out _ hB).mono ?_
      rintro e w0 ⟨rfl, hb⟩
      replace hB := hB.trans (hb.mono hB.size)
      clear hb
      go_wp2
      go_ret
      exact ⟨rfl, hB⟩
end Go.Proofs.Ytgbpecjgpiffmaa
