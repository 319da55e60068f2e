/-
  The exact law of MirrorOf: its walk.
-/
import Derived.Test.YtnheppkjeoiipaaMir2
import Derived.Test.YtnheppkjeoiipaaGnv8
import Derived.Test.YtnheppkjeoiipaaMarkOpt
import Derived.Deep.RegionWith
namespace Go.Proofs.Ytnheppkjeoiipaa
open Go.RowKit Go.PlainAid
theorem grown_from {w u w' : World} {r : Option Nat} (hb : Below w.heap.size w u) (hg : u.grownBy w' r) : w.grownBy w' r :=
  ⟨hg.os.trans hb.os, hg.tape.trans hb.tape, hg.output.trans hb.output, Nat.le_trans hb.size hg.size, fun k hk hne => (hg.block k (Nat.lt_of_lt_of_le hk hb.size) hne).trans (hb.block k hk)⟩
theorem Bx.keptO {W W' : World} {b : Nat} {vs : List Value} {r : Option Nat} (h : Bx W b vs) (hg : W.grownBy W' r) (hr : ∀ x, r = some x → b ≠ x) : Bx W' b vs :=
  ⟨Nat.lt_of_lt_of_le h.1 hg.size, fun i v hv => (World.cell?_of_block (w := W) (a := ⟨b, i, none⟩) (hg.block b h.1 (by intro hx; exact hr b hx.symm rfl))).trans (h.2 i v hv)⟩
/-- whatever it is, an end that is none has no options, one that is one has them all -/
theorem edM_opts (e : EdV) : (edM e).opts = e.opts ∨ (edM e).opts = [] := by
  unfold edM; split
  · exact .inl rfl
  · exact .inr rfl
theorem edM_len (e : EdV) : (edM e).opts.length ≤ e.opts.length := by
  rcases edM_opts e with h | h <;> rw [h] <;> simp
set_option maxRecDepth 100000 in
theorem l_markEnd (e : EdV) (B : Nat) (T : Option Addr) (c : Nat) (xs : List Value) (w : World) (h : ownV w B 33 3 (.slice T e.opts.length c) e.opts.length xs) (hn : e.opts.length ≤ 1048576) :
    Calls Try.prog 20 #[.agg (edL e T c), .int .i64 1] w fun x w' => x = .returned (.int .i64 (1 + (e.opts.length : Int) * 3)) ∧ ownV w' B 33 3 (.slice T e.opts.length c) e.opts.length (opF (opMk e.opts.length)) ∧ w.grownBy w' (Value.slice T e.opts.length c).ownBlock := by
  have hb0 : ∀ cs, Below w.heap.size w (w.alloc (.cells cs 39)) := fun cs => (Below.refl _ w).alloc (Nat.le_refl _) _
  have CM : Hid (∀ u : World, Below w.heap.size w u → Calls Try.prog 47 #[.slice T e.opts.length c, .int .i64 1] u fun x w' => x = .returned (.int .i64 (1 + (e.opts.length : Int) * 3)) ∧ ownV w' B 33 3 (.slice T e.opts.length c) e.opts.length (opF (opMk e.opts.length)) ∧ u.grownBy w' (Value.slice T e.opts.length c).ownBlock) := fun u hb => l_markOptS B T _ c xs u (h.far hb) hn
  clear h hn
  obtain ⟨id, knd, loc, rem, net, df, sum, opts⟩ := e
  simp only [edL] at *
  go_enter Try.func20, Try.ntmps20
  go_wp2_with fail
  go_at_call 47
  refine (CM.out _ (hb0 _)).mono ?_
  rintro x w1 ⟨rfl, hm, hg⟩
  go_wp2
  go_ret
  exact ⟨rfl, hm, grown_from (hb0 _) hg⟩
set_option maxRecDepth 100000 in
theorem l_heldEnd (e : EdV) (B : Nat) (T : Option Addr) (c : Nat) (w : World) (h : ownV w B 33 3 (.slice T e.opts.length c) e.opts.length (opF (opMk e.opts.length))) (hn : e.opts.length ≤ 1048576) :
    Calls Try.prog 21 #[.agg (edL e T c), .int .i64 1] w fun x w' => x = .returned (.int .i64 (1 + (e.opts.length : Int) * 3)) ∧ Below w.heap.size w w' := by
  have hb0 : ∀ cs, Below w.heap.size w (w.alloc (.cells cs 39)) := fun cs => (Below.refl _ w).alloc (Nat.le_refl _) _
  have CM : Hid (∀ u : World, Below w.heap.size w u → Calls Try.prog 48 #[.slice T e.opts.length c, .int .i64 1] u fun x w' => x = .returned (.int .i64 (1 + (e.opts.length : Int) * 3)) ∧ Below u.heap.size u w') := fun u hb => l_heldOptS B T _ c u (h.far hb) hn
  clear h hn
  obtain ⟨id, knd, loc, rem, net, df, sum, opts⟩ := e
  simp only [edL] at *
  go_enter Try.func21, Try.ntmps21
  go_wp2_with fail
  go_at_call 48
  refine (CM.out _ (hb0 _)).mono ?_
  rintro x w1 ⟨rfl, hb⟩
  have hq : ¬ (1 + (opts.length : Int) * 3 < 0) := by omega
  go_wp2
  go_ret
  exact ⟨rfl, (hb0 _).trans (hb.mono (hb0 _).size)⟩
set_option maxRecDepth 100000 in
set_option maxHeartbeats 6400000 in
theorem walk_FnExactMirrorOf (e : EdV) (T : Option Addr) (c : Nat) (w : World) (h : CellsAt w T (opF e.opts)) (hm : e.opts.length ≤ maxLen) (hlong : opLong e.opts) :
    Calls Try.prog 5 #[.agg (edL e T c)] w fun x w' => x = .returned (.bool true) ∧ Below w.heap.size w w' := by
  unfold maxLen at hm
  have hb0 : Below w.heap.size w (w.alloc (.cells (edL e T c) 36)) := (Below.refl _ w).alloc (Nat.le_refl _) _
  by_cases hz : e.opts.length + opTot e.opts ≤ 1048576
  · have CZ : Hid (∀ u : World, Below w.heap.size w u → Calls Try.prog 15 #[.agg (edL e T c), .int .i64 1048576] u fun x w' => x = .returned (.int .i64 (1048576 - (e.opts.length : Int) - (opTot e.opts : Int))) ∧ Below u.heap.size u w') := fun u hb => l_szEnd_yes e T c u (h.below hb) hz
    have CT : Hid (∀ u : World, Below w.heap.size w u → Calls Try.prog 17 #[.agg (edL e T c)] u fun x w' => ∃ g : Nat, x = .returned (.agg (edL e (some ⟨g, 0, none⟩) e.opts.length)) ∧ ownV w' u.heap.size 33 3 (.slice (some ⟨g, 0, none⟩) e.opts.length e.opts.length) e.opts.length (opF e.opts) ∧ Below u.heap.size u w') := fun u hb => l_toEnd e T c u (h.below hb) (by omega)
    have CS : Hid (∀ (g : Nat) (u : World), CellsAt u (some ⟨g, 0, none⟩) (opF e.opts) → Calls Try.prog 16 #[.agg (edL e (some ⟨g, 0, none⟩) e.opts.length)] u fun x w' => ∃ T' c', x = .returned (.agg (edL (edM e) T' c')) ∧ ownV w' u.heap.size 33 3 (.slice T' (edM e).opts.length c') (edM e).opts.length (opF (edM e).opts) ∧ Below u.heap.size u w') := fun g u h1 => s_MirrorOf e _ _ u h1 (by simp) hz
    have CI : Hid (∀ (g : Nat) (u : World), CellsAt u (some ⟨g, 0, none⟩) (opF e.opts) → Calls Try.prog 18 #[.agg (edL e (some ⟨g, 0, none⟩) e.opts.length)] u fun x w' => ∃ T' c', x = .returned (.agg (edL (edM e) T' c')) ∧ ownV w' u.heap.size 33 3 (.slice T' (edM e).opts.length c') (edM e).opts.length (opF (edM e).opts) ∧ Below u.heap.size u w') := fun g u h1 => i_MirrorOf e _ _ u h1 (by simp) hz
    have CE : Hid (∀ (g g2 : Nat) (u : World), CellsAt u (some ⟨g, 0, none⟩) (opF e.opts) → CellsAt u (some ⟨g2, 0, none⟩) (opF e.opts) → Calls Try.prog 19 #[.agg (edL e (some ⟨g, 0, none⟩) e.opts.length), .agg (edL e (some ⟨g2, 0, none⟩) e.opts.length)] u fun x w' => x = .returned (.bool true) ∧ Below u.heap.size u w') := fun g g2 u h1 h2 => l_eqEnd e _ _ _ _ u h1 h2 (by omega)
    have CF : Hid (∀ (T1 T2 : Option Addr) (c1 c2 : Nat) (u : World), CellsAt u T1 (opF (edM e).opts) → CellsAt u T2 (opF (edM e).opts) → Calls Try.prog 19 #[.agg (edL (edM e) T1 c1), .agg (edL (edM e) T2 c2)] u fun x w' => x = .returned (.bool true) ∧ Below u.heap.size u w') := fun T1 T2 c1 c2 u h1 h2 => l_eqEnd (edM e) _ _ _ _ u h1 h2 (by have := edM_len e; omega)
    have CMX : Hid (∀ (B g : Nat) (u : World), ownV u B 33 3 (.slice (some ⟨g, 0, none⟩) e.opts.length e.opts.length) e.opts.length (opF e.opts) → Calls Try.prog 20 #[.agg (edL e (some ⟨g, 0, none⟩) e.opts.length), .int .i64 1] u fun x w' => x = .returned (.int .i64 (1 + (e.opts.length : Int) * 3)) ∧ ownV w' B 33 3 (.slice (some ⟨g, 0, none⟩) e.opts.length e.opts.length) e.opts.length (opF (opMk e.opts.length)) ∧ u.grownBy w' (some g)) := fun B g u h1 => l_markEnd e B _ _ _ u h1 (by omega)
    have CMG : Hid (∀ (B : Nat) (TG : Option Addr) (cG : Nat) (u : World), ownV u B 33 3 (.slice TG (edM e).opts.length cG) (edM e).opts.length (opF (edM e).opts) → Calls Try.prog 20 #[.agg (edL (edM e) TG cG), .int .i64 1] u fun x w' => x = .returned (.int .i64 (1 + ((edM e).opts.length : Int) * 3)) ∧ ownV w' B 33 3 (.slice TG (edM e).opts.length cG) (edM e).opts.length (opF (opMk (edM e).opts.length)) ∧ u.grownBy w' (Value.slice TG (edM e).opts.length cG).ownBlock) := fun B TG cG u h1 => l_markEnd (edM e) B _ _ _ u h1 (by have := edM_len e; omega)
    have CHG : Hid (∀ (B : Nat) (TG : Option Addr) (cG : Nat) (u : World), ownV u B 33 3 (.slice TG (edM e).opts.length cG) (edM e).opts.length (opF (opMk (edM e).opts.length)) → Calls Try.prog 21 #[.agg (edL (edM e) TG cG), .int .i64 1] u fun x w' => x = .returned (.int .i64 (1 + ((edM e).opts.length : Int) * 3)) ∧ Below u.heap.size u w') := fun B TG cG u h1 => l_heldEnd (edM e) B _ _ u h1 (by have := edM_len e; omega)
    obtain ⟨lf, hlf, hlf'⟩ : ∃ lf : Int, lf ≤ 1048576 - (e.opts.length : Int) - (opTot e.opts : Int) ∧ 1048576 - (e.opts.length : Int) - (opTot e.opts : Int) ≤ lf := ⟨_, Int.le_refl _, Int.le_refl _⟩
    rw [show 1048576 - (e.opts.length : Int) - (opTot e.opts : Int) = lf from by omega] at CZ
    have hlf0 : 0 ≤ lf := by omega
    have hA : Bx (w.alloc (.cells (edL e T c) 36)) w.heap.size (edL e T c).toList := Bx.new w _ _
    clear h hm hlong hz hlf hlf'
    generalize edM e = m at *
    obtain ⟨id, knd, loc, rem, net, df, sum, opts⟩ := e
    obtain ⟨id', knd', loc', rem', net', df', sum', opts'⟩ := m
    simp only [edL] at *
    have hq1 : ¬ (1 + (opts.length : Int) * 3 < 0) := by omega
    have hq2 : ¬ (1 + (opts'.length : Int) * 3 < 0) := by omega
    have hq3 : ((1 + (opts'.length : Int) * 3) != (1 + (opts'.length : Int) * 3)) = false := by simp
    generalize opF opts = cs at *
    generalize opF opts' = cs' at *
    generalize opts.length = n at *
    generalize opts'.length = n' at *
    go_enter Try.func5, Try.ntmps5
    go_wp2_with fail
    go_at_call 15
    refine (CZ.out _ hb0).mono ?_
    rintro x w1 ⟨rfl, hb⟩
    have hB := hb0
    replace hB := hB.trans (hb.mono hB.size)
    replace hA := hA.below hb
    clear hb hb0
    have a0 := hA.2 0 _ rfl
    have a1 := hA.2 1 _ rfl
    have a2 := hA.2 2 _ rfl
    have a3 := hA.2 3 _ rfl
    have a4 := hA.2 4 _ rfl
    have a5 := hA.2 5 _ rfl
    have a6 := hA.2 6 _ rfl
    have a7 := hA.2 7 _ rfl
    go_wp2_with fail
    go_at_call 17
    refine (CT.out _ hB).mono ?_
    rintro x w2 ⟨g1, rfl, ho1, hb⟩
    clear a0 a1 a2 a3 a4 a5 a6 a7
    replace hB := hB.trans (hb.mono hB.size)
    replace hA := hA.below hb
    clear hb
    go_wp2_with fail
    go_at_call 16
    refine (CS.out _ _ ho1.reads.2).mono ?_
    rintro x w3 ⟨TW, cW, rfl, hW, hb⟩
    replace hB := hB.trans (hb.mono hB.size)
    replace hA := hA.below hb
    clear hb ho1
    have lW := World.ownsRow.lt hW
    have hq := (Below.refl _ w3).alloc (Nat.le_refl _) (.cells #[.int .i64 id', .int .i64 knd', .int .i64 loc', .int .i64 rem', .int .i64 net', .bool df', .bool sum', .slice TW n' cW] 39)
    have hBW := Bx.new w3 #[.int .i64 id', .int .i64 knd', .int .i64 loc', .int .i64 rem', .int .i64 net', .bool df', .bool sum', .slice TW n' cW] 39
    replace hB := hB.trans (hq.mono hB.size)
    replace hA := hA.below hq
    replace hW := hW.far hq
    have hsW : w3.heap.size < (w3.alloc (.cells #[.int .i64 id', .int .i64 knd', .int .i64 loc', .int .i64 rem', .int .i64 net', .bool df', .bool sum', .slice TW n' cW] 39)).heap.size := hBW.1
    clear hq
    have a0 := hA.2 0 _ rfl
    have a1 := hA.2 1 _ rfl
    have a2 := hA.2 2 _ rfl
    have a3 := hA.2 3 _ rfl
    have a4 := hA.2 4 _ rfl
    have a5 := hA.2 5 _ rfl
    have a6 := hA.2 6 _ rfl
    have a7 := hA.2 7 _ rfl
    go_wp2_with fail
    generalize hU : w3.alloc _ = u3 at *
    clear hU
    have sA := hA.1
    go_at_call 17
    refine (CT.out _ hB).mono ?_
    rintro x w4 ⟨g2, rfl, hX, hb⟩
    clear a0 a1 a2 a3 a4 a5 a6 a7
    replace hB := hB.trans (hb.mono hB.size)
    replace hA := hA.below hb
    replace hW := hW.far hb
    replace hBW := hBW.below hb
    have s4 := hb.size
    clear hb
    have lX := World.ownsRow.lt hX
    have hq := (Below.refl _ w4).alloc (Nat.le_refl _) (.cells #[.int .i64 id, .int .i64 knd, .int .i64 loc, .int .i64 rem, .int .i64 net, .bool df, .bool sum, .slice (some ⟨g2, 0, none⟩) n n] 39)
    have hBX := Bx.new w4 #[.int .i64 id, .int .i64 knd, .int .i64 loc, .int .i64 rem, .int .i64 net, .bool df, .bool sum, .slice (some ⟨g2, 0, none⟩) n n] 39
    replace hB := hB.trans (hq.mono hB.size)
    replace hA := hA.below hq
    replace hW := hW.far hq
    replace hBW := hBW.below hq
    replace hX := hX.far hq
    clear hq
    have hsX : w4.heap.size < (w4.alloc (.cells #[.int .i64 id, .int .i64 knd, .int .i64 loc, .int .i64 rem, .int .i64 net, .bool df, .bool sum, .slice (some ⟨g2, 0, none⟩) n n] 39)).heap.size := hBX.1
    go_wp2_with fail
    generalize hU : w4.alloc _ = u4 at *
    clear hU
    go_at_call 18
    refine (CI.out _ _ hX.reads.2).mono ?_
    rintro x w5 ⟨TG, cG, rfl, hG, hb⟩
    replace hB := hB.trans (hb.mono hB.size)
    replace hA := hA.below hb
    replace hW := hW.far hb
    replace hBW := hBW.below hb
    replace hX := hX.far hb
    replace hBX := hBX.below hb
    have s5 := hb.size
    clear hb
    have lG := World.ownsRow.lt hG
    have hq := (Below.refl _ w5).alloc (Nat.le_refl _) (.cells #[.int .i64 id', .int .i64 knd', .int .i64 loc', .int .i64 rem', .int .i64 net', .bool df', .bool sum', .slice TG n' cG] 39)
    have hBG := Bx.new w5 #[.int .i64 id', .int .i64 knd', .int .i64 loc', .int .i64 rem', .int .i64 net', .bool df', .bool sum', .slice TG n' cG] 39
    replace hB := hB.trans (hq.mono hB.size)
    replace hA := hA.below hq
    replace hW := hW.far hq
    replace hBW := hBW.below hq
    replace hX := hX.far hq
    replace hBX := hBX.below hq
    replace hG := hG.far hq
    clear hq
    have hsG : w5.heap.size < (w5.alloc (.cells #[.int .i64 id', .int .i64 knd', .int .i64 loc', .int .i64 rem', .int .i64 net', .bool df', .bool sum', .slice TG n' cG] 39)).heap.size := hBG.1
    have y0 := hBG.2 0 _ rfl
    have y1 := hBG.2 1 _ rfl
    have y2 := hBG.2 2 _ rfl
    have y3 := hBG.2 3 _ rfl
    have y4 := hBG.2 4 _ rfl
    have y5 := hBG.2 5 _ rfl
    have y6 := hBG.2 6 _ rfl
    have y7 := hBG.2 7 _ rfl
    have z0 := hBW.2 0 _ rfl
    have z1 := hBW.2 1 _ rfl
    have z2 := hBW.2 2 _ rfl
    have z3 := hBW.2 3 _ rfl
    have z4 := hBW.2 4 _ rfl
    have z5 := hBW.2 5 _ rfl
    have z6 := hBW.2 6 _ rfl
    have z7 := hBW.2 7 _ rfl
    go_wp2_with fail
    generalize hU : w5.alloc _ = u5 at *
    clear hU
    go_at_call 19
    refine (CF.out _ _ _ _ _ hG.reads.2 hW.reads.2).mono ?_
    rintro x w6 ⟨rfl, hb⟩
    clear y0 y1 y2 y3 y4 y5 y6 y7 z0 z1 z2 z3 z4 z5 z6 z7
    replace hB := hB.trans (hb.mono hB.size)
    replace hA := hA.below hb
    replace hW := hW.far hb
    replace hBW := hBW.below hb
    replace hX := hX.far hb
    replace hBX := hBX.below hb
    replace hG := hG.far hb
    replace hBG := hBG.below hb
    clear hb
    have a0 := hA.2 0 _ rfl
    have a1 := hA.2 1 _ rfl
    have a2 := hA.2 2 _ rfl
    have a3 := hA.2 3 _ rfl
    have a4 := hA.2 4 _ rfl
    have a5 := hA.2 5 _ rfl
    have a6 := hA.2 6 _ rfl
    have a7 := hA.2 7 _ rfl
    have x0 := hBX.2 0 _ rfl
    have x1 := hBX.2 1 _ rfl
    have x2 := hBX.2 2 _ rfl
    have x3 := hBX.2 3 _ rfl
    have x4 := hBX.2 4 _ rfl
    have x5 := hBX.2 5 _ rfl
    have x6 := hBX.2 6 _ rfl
    have x7 := hBX.2 7 _ rfl
    have hX2 := hX.reads.2
    go_wp2_with fail
    go_region_with (first
      | (go_at_call 17; refine (CT.out _ hB.drew).mono ?_; rintro x w7 ⟨g3, rfl, ho3, hb7⟩; have hi3 := ho3.reads.2; have hi4 := CellsAt.below (w := w6.drew) hX2 hb7; have hB7 := hB.drew.trans (hb7.mono hB.drew.size); have hA7 := Bx.below (W := w6.drew) hA hb7; have hW7 := ownV.far (w := w6.drew) hW hb7; have hBW7 := Bx.below (W := w6.drew) hBW hb7; have hX7 := ownV.far (w := w6.drew) hX hb7; have hBX7 := Bx.below (W := w6.drew) hBX hb7; have hG7 := ownV.far (w := w6.drew) hG hb7; have hBG7 := Bx.below (W := w6.drew) hBG hb7; have v0 := hBX7.2 0 _ rfl; have v1 := hBX7.2 1 _ rfl; have v2 := hBX7.2 2 _ rfl; have v3 := hBX7.2 3 _ rfl; have v4 := hBX7.2 4 _ rfl; have v5 := hBX7.2 5 _ rfl; have v6 := hBX7.2 6 _ rfl; have v7 := hBX7.2 7 _ rfl; have t0 := hA7.2 0 _ rfl; have t1 := hA7.2 1 _ rfl; have t2 := hA7.2 2 _ rfl; have t3 := hA7.2 3 _ rfl; have t4 := hA7.2 4 _ rfl; have t5 := hA7.2 5 _ rfl; have t6 := hA7.2 6 _ rfl; have t7 := hA7.2 7 _ rfl)
      | (go_at_call 19; refine (CE.out _ _ _ hi4 hi3).mono ?_; rintro x w8 ⟨rfl, hb8⟩; have hB8 := hB7.trans (hb8.mono hB7.size); have hA8 := hA7.below hb8; have hW8 := hW7.far hb8; have hBW8 := hBW7.below hb8; have hX8 := hX7.far hb8; have hBX8 := hBX7.below hb8; have hG8 := hG7.far hb8; have hBG8 := hBG7.below hb8))
    all_goals
      clear hB hA hW hBW hX hBX hG hBG hB7 hA7 hW7 hBW7 hX7 hBX7 hG7 hBG7 hi3 hi4 ho3 hb7 hb8 hX2 a0 a1 a2 a3 a4 a5 a6 a7 x0 x1 x2 x3 x4 x5 x6 x7 v0 v1 v2 v3 v4 v5 v6 v7 t0 t1 t2 t3 t4 t5 t6 t7
      have x0 := hBX8.2 0 _ rfl
      have x1 := hBX8.2 1 _ rfl
      have x2 := hBX8.2 2 _ rfl
      have x3 := hBX8.2 3 _ rfl
      have x4 := hBX8.2 4 _ rfl
      have x5 := hBX8.2 5 _ rfl
      have x6 := hBX8.2 6 _ rfl
      have x7 := hBX8.2 7 _ rfl
      go_wp2_with fail
      go_at_call 20
      refine (CMX.out _ _ _ hX8).mono ?_
      rintro x w9 ⟨rfl, hMX, hg⟩
      clear x0 x1 x2 x3 x4 x5 x6 x7
      have hgx : ∀ y, some g2 = some y → u3.heap.size ≤ y ∧ y < w4.heap.size := fun y hy => lX y hy
      have hg2 := hgx g2 rfl
      have sB := hB8.size
      replace hB8 := hB8.grown hg hB8.size (fun y hy => by have := hgx y hy; omega)
      replace hA8 := hA8.keptO hg (fun y hy => by have := hgx y hy;  omega)
      replace hW8 := hW8.keptB hg (fun y hy hx => by have := hgx y hx; have := lW y hy; omega)
      replace hBW8 := hBW8.keptO hg (fun y hy => by have := hgx y hy;  omega)
      replace hBX8 := hBX8.keptO hg (fun y hy => by have := hgx y hy;  omega)
      replace hG8 := hG8.keptB hg (fun y hy hx => by have := hgx y hx; have := lG y hy; omega)
      replace hBG8 := hBG8.keptO hg (fun y hy => by have := hgx y hy;  omega)
      clear hg hMX hg2 hgx hX8
      have y0 := hBG8.2 0 _ rfl
      have y1 := hBG8.2 1 _ rfl
      have y2 := hBG8.2 2 _ rfl
      have y3 := hBG8.2 3 _ rfl
      have y4 := hBG8.2 4 _ rfl
      have y5 := hBG8.2 5 _ rfl
      have y6 := hBG8.2 6 _ rfl
      have y7 := hBG8.2 7 _ rfl
      have z0 := hBW8.2 0 _ rfl
      have z1 := hBW8.2 1 _ rfl
      have z2 := hBW8.2 2 _ rfl
      have z3 := hBW8.2 3 _ rfl
      have z4 := hBW8.2 4 _ rfl
      have z5 := hBW8.2 5 _ rfl
      have z6 := hBW8.2 6 _ rfl
      have z7 := hBW8.2 7 _ rfl
      go_wp2_with fail
      go_at_call 19
      refine (CF.out _ _ _ _ _ hG8.reads.2 hW8.reads.2).mono ?_
      rintro x w10 ⟨rfl, hb⟩
      clear y0 y1 y2 y3 y4 y5 y6 y7 z0 z1 z2 z3 z4 z5 z6 z7
      replace hB8 := hB8.trans (hb.mono hB8.size)
      replace hA8 := hA8.below hb
      replace hW8 := hW8.far hb
      replace hBW8 := hBW8.below hb
      replace hBX8 := hBX8.below hb
      replace hG8 := hG8.far hb
      replace hBG8 := hBG8.below hb
      clear hb
      have y0 := hBG8.2 0 _ rfl
      have y1 := hBG8.2 1 _ rfl
      have y2 := hBG8.2 2 _ rfl
      have y3 := hBG8.2 3 _ rfl
      have y4 := hBG8.2 4 _ rfl
      have y5 := hBG8.2 5 _ rfl
      have y6 := hBG8.2 6 _ rfl
      have y7 := hBG8.2 7 _ rfl
      go_wp2_with fail
      go_at_call 20
      refine (CMG.out _ _ _ _ hG8).mono ?_
      rintro x w11 ⟨rfl, hMG, hg⟩
      clear y0 y1 y2 y3 y4 y5 y6 y7
      replace hB8 := hB8.grown hg hB8.size (fun y hy => by have := lG y hy; omega)
      replace hA8 := hA8.keptO hg (fun y hy => by have := lG y hy;  omega)
      replace hW8 := hW8.keptB hg (fun y hy hx => by have := lG y hx; have := lW y hy; omega)
      replace hBW8 := hBW8.keptO hg (fun y hy => by have := lG y hy;  omega)
      replace hBX8 := hBX8.keptO hg (fun y hy => by have := lG y hy;  omega)
      replace hBG8 := hBG8.keptO hg (fun y hy => by have := lG y hy;  omega)
      clear hg hG8
      have y0 := hBG8.2 0 _ rfl
      have y1 := hBG8.2 1 _ rfl
      have y2 := hBG8.2 2 _ rfl
      have y3 := hBG8.2 3 _ rfl
      have y4 := hBG8.2 4 _ rfl
      have y5 := hBG8.2 5 _ rfl
      have y6 := hBG8.2 6 _ rfl
      have y7 := hBG8.2 7 _ rfl
      go_wp2_with fail
      go_at_call 21
      refine (CHG.out _ _ _ _ hMG).mono ?_
      rintro x w12 ⟨rfl, hb⟩
      clear y0 y1 y2 y3 y4 y5 y6 y7
      replace hB8 := hB8.trans (hb.mono hB8.size)
      replace hA8 := hA8.below hb
      replace hW8 := hW8.far hb
      replace hBW8 := hBW8.below hb
      replace hBX8 := hBX8.below hb
      replace hBG8 := hBG8.below hb
      replace hMG := hMG.far hb
      clear hb
      have a0 := hA8.2 0 _ rfl
      have a1 := hA8.2 1 _ rfl
      have a2 := hA8.2 2 _ rfl
      have a3 := hA8.2 3 _ rfl
      have a4 := hA8.2 4 _ rfl
      have a5 := hA8.2 5 _ rfl
      have a6 := hA8.2 6 _ rfl
      have a7 := hA8.2 7 _ rfl
      go_wp2_with fail
      go_at_call 17
      refine (CT.out _ hB8).mono ?_
      rintro x w13 ⟨g5, rfl, ho5, hb⟩
      clear a0 a1 a2 a3 a4 a5 a6 a7
      replace hB8 := hB8.trans (hb.mono hB8.size)
      replace hA8 := hA8.below hb
      replace hW8 := hW8.far hb
      replace hBW8 := hBW8.below hb
      replace hBX8 := hBX8.below hb
      replace hBG8 := hBG8.below hb
      replace hMG := hMG.far hb
      clear hb
      go_wp2_with fail
      go_at_call 18
      refine (CI.out _ _ ho5.reads.2).mono ?_
      rintro x w14 ⟨TH, cH, rfl, hH, hb⟩
      replace hB8 := hB8.trans (hb.mono hB8.size)
      replace hA8 := hA8.below hb
      replace hW8 := hW8.far hb
      replace hBW8 := hBW8.below hb
      replace hBX8 := hBX8.below hb
      replace hBG8 := hBG8.below hb
      replace hMG := hMG.far hb
      clear hb ho5
      have hq := (Below.refl _ w14).alloc (Nat.le_refl _) (.cells #[.int .i64 id', .int .i64 knd', .int .i64 loc', .int .i64 rem', .int .i64 net', .bool df', .bool sum', .slice TH n' cH] 39)
      have hBH := Bx.new w14 #[.int .i64 id', .int .i64 knd', .int .i64 loc', .int .i64 rem', .int .i64 net', .bool df', .bool sum', .slice TH n' cH] 39
      replace hB8 := hB8.trans (hq.mono hB8.size)
      replace hA8 := hA8.below hq
      replace hW8 := hW8.far hq
      replace hBW8 := hBW8.below hq
      replace hBX8 := hBX8.below hq
      replace hBG8 := hBG8.below hq
      replace hMG := hMG.far hq
      replace hH := hH.far hq
      clear hq
      have y0 := hBH.2 0 _ rfl
      have y1 := hBH.2 1 _ rfl
      have y2 := hBH.2 2 _ rfl
      have y3 := hBH.2 3 _ rfl
      have y4 := hBH.2 4 _ rfl
      have y5 := hBH.2 5 _ rfl
      have y6 := hBH.2 6 _ rfl
      have y7 := hBH.2 7 _ rfl
      have z0 := hBW8.2 0 _ rfl
      have z1 := hBW8.2 1 _ rfl
      have z2 := hBW8.2 2 _ rfl
      have z3 := hBW8.2 3 _ rfl
      have z4 := hBW8.2 4 _ rfl
      have z5 := hBW8.2 5 _ rfl
      have z6 := hBW8.2 6 _ rfl
      have z7 := hBW8.2 7 _ rfl
      go_wp2_with fail
      generalize hU : w14.alloc _ = u14 at *
      clear hU
      go_at_call 19
      refine (CF.out _ _ _ _ _ hH.reads.2 hW8.reads.2).mono ?_
      rintro x w15 ⟨rfl, hb⟩
      clear y0 y1 y2 y3 y4 y5 y6 y7 z0 z1 z2 z3 z4 z5 z6 z7
      replace hB8 := hB8.trans (hb.mono hB8.size)
      replace hA8 := hA8.below hb
      replace hW8 := hW8.far hb
      replace hBW8 := hBW8.below hb
      replace hBX8 := hBX8.below hb
      replace hBG8 := hBG8.below hb
      replace hMG := hMG.far hb
      replace hH := hH.far hb
      replace hBH := hBH.below hb
      clear hb
      have y0 := hBG8.2 0 _ rfl
      have y1 := hBG8.2 1 _ rfl
      have y2 := hBG8.2 2 _ rfl
      have y3 := hBG8.2 3 _ rfl
      have y4 := hBG8.2 4 _ rfl
      have y5 := hBG8.2 5 _ rfl
      have y6 := hBG8.2 6 _ rfl
      have y7 := hBG8.2 7 _ rfl
      go_wp2_with fail
      go_at_call 21
      refine (CHG.out _ _ _ _ hMG).mono ?_
      rintro x w16 ⟨rfl, hb⟩
      clear y0 y1 y2 y3 y4 y5 y6 y7
      replace hB8 := hB8.trans (hb.mono hB8.size)
      replace hA8 := hA8.below hb
      replace hW8 := hW8.far hb
      replace hBW8 := hBW8.below hb
      replace hBX8 := hBX8.below hb
      replace hBG8 := hBG8.below hb
      replace hMG := hMG.far hb
      replace hH := hH.far hb
      replace hBH := hBH.below hb
      clear hb
      go_wp2
      go_ret
      exact ⟨rfl, hB8⟩
  · have CZ : Hid (∀ u : World, Below w.heap.size w u → Calls Try.prog 15 #[.agg (edL e T c), .int .i64 1048576] u fun x w' => x = .returned (.int .i64 (-1)) ∧ Below u.heap.size u w') := fun u hb => l_szEnd_no e T c u (h.below hb) (by omega) hlong (by omega)
    clear h hm hlong hz
    obtain ⟨id, knd, loc, rem, net, df, sum, opts⟩ := e
    simp only [edL] at *
    go_enter Try.func5, Try.ntmps5
    go_wp2_with fail
    go_at_call 15
    refine (CZ.out _ hb0).mono ?_
    rintro x w1 ⟨rfl, hb⟩
    go_wp2
    go_ret
    exact ⟨rfl, hb0.trans (hb.mono hb0.size)⟩
end Go.Proofs.Ytnheppkjeoiipaa
