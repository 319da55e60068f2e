/-
  The exact law on ends: sizes, copies, the walk.
-/
import Derived.Test.YtkeakjgojakanaaEds1
import Derived.Deep.RegionWith
namespace Go.Proofs.Ytkeakjgojakanaa
open Go.RowKit Go.PlainAid
theorem bcellE {W w1 : World} (hb : Below W.heap.size W w1) : (∀ b o, b < W.heap.size → w1.cell? ⟨b, o, none⟩ = W.cell? ⟨b, o, none⟩) ∧ (∀ b o, b < W.heap.size → w1.frozen? ⟨b, o, none⟩ = W.frozen? ⟨b, o, none⟩) :=
  ⟨fun b o h => hb.cell (p := ⟨b, o, none⟩) h, fun b o h => hb.frozen (p := ⟨b, o, none⟩) h⟩
theorem CellsAt.drew {w : World} {T : Option Addr} {l : List Value} (h : CellsAt w T l) : CellsAt w.drew T l := h.below (Below.refl _ w).drew
theorem ownV.aside {w : World} {B g n cap : Nat} {E : TypeId} {k : Nat} {l : List Value} (h : ownV w B E k (.slice (some ⟨g, 0, none⟩) n cap) n l) {b j : Nat} (hb : b ≠ g) (u : Value) : ownV (w.setCell ⟨b, j, none⟩ u) B E k (.slice (some ⟨g, 0, none⟩) n cap) n l :=
  ownsRow_setCell_other h (by simp [Value.ownBlock]; omega) u
set_option maxRecDepth 100000 in
theorem l_szEnd_yes (e : EdV) (T : Option Addr) (c : Nat) (w : World) (h : CellsAt w T (opF e.opts)) (hn : e.opts.length + opTot e.opts ≤ 1048576) :
    Calls Try.prog 12 #[.agg (edL e T c), .int .i64 1048576] w fun x w' => x = .returned (.int .i64 (1048576 - (e.opts.length : Int) - (opTot e.opts : Int))) ∧ Below w.heap.size w w' := by
  have hb0 : ∀ cs, Below w.heap.size w (w.alloc (.cells cs 24)) := fun cs => (Below.refl _ w).alloc (Nat.le_refl _) _
  have CZ : Hid (∀ u : World, Below w.heap.size w u → Calls Try.prog 51 #[.slice T e.opts.length c, .int .i64 1048576] u fun x w' => x = .returned (.int .i64 (1048576 - (e.opts.length : Int) - (opTot e.opts : Int))) ∧ Below u.heap.size u w') := fun u hb => l_szOptS_yes T c e.opts u (h.below hb) hn
  obtain ⟨lf, hlf, hlf'⟩ : ∃ lf : Int, lf ≤ 1048576 - (e.opts.length : Int) - (opTot e.opts : Int) ∧ 1048576 - (e.opts.length : Int) - (opTot e.opts : Int) ≤ lf := ⟨_, Int.le_refl _, Int.le_refl _⟩
  have e0 : 1048576 - (e.opts.length : Int) - (opTot e.opts : Int) = lf := by omega
  rw [e0] at CZ ⊢
  have hlf0 : 0 ≤ lf := by omega
  clear h hn hlf hlf' e0
  obtain ⟨id, knd, loc, rem, net, df, sum, opts⟩ := e
  simp only [edL] at *
  go_enter Try.func12, Try.ntmps12
  go_wp2_with fail
  go_at_call 51
  refine (CZ.out _ (hb0 _)).mono ?_
  rintro x w1 ⟨rfl, hb⟩
  go_wp2
  go_ret
  exact ⟨rfl, (hb0 _).trans (hb.mono (hb0 _).size)⟩
set_option maxRecDepth 100000 in
theorem l_szEnd_no (e : EdV) (T : Option Addr) (c : Nat) (w : World) (h : CellsAt w T (opF e.opts)) (hm : e.opts.length ≤ 9223372036854775807) (hs : opLong e.opts) (hn : 1048576 < e.opts.length + opTot e.opts) :
    Calls Try.prog 12 #[.agg (edL e T c), .int .i64 1048576] w fun x w' => x = .returned (.int .i64 (-1)) ∧ Below w.heap.size w w' := by
  have hb0 : ∀ cs, Below w.heap.size w (w.alloc (.cells cs 24)) := fun cs => (Below.refl _ w).alloc (Nat.le_refl _) _
  have CZ : Hid (∀ u : World, Below w.heap.size w u → Calls Try.prog 51 #[.slice T e.opts.length c, .int .i64 1048576] u fun x w' => x = .returned (.int .i64 (-1)) ∧ Below u.heap.size u w') := fun u hb => l_szOptS_no T c e.opts u (h.below hb) hm hs hn
  clear h hn hm hs
  obtain ⟨id, knd, loc, rem, net, df, sum, opts⟩ := e
  simp only [edL] at *
  go_enter Try.func12, Try.ntmps12
  go_wp2_with fail
  go_at_call 51
  refine (CZ.out _ (hb0 _)).mono ?_
  rintro x w1 ⟨rfl, hb⟩
  go_wp2
  go_ret
  exact ⟨rfl, (hb0 _).trans (hb.mono (hb0 _).size)⟩
set_option maxRecDepth 100000 in
set_option maxHeartbeats 1600000 in
theorem l_toEnd (e : EdV) (T : Option Addr) (c : Nat) (w : World) (h : CellsAt w T (opF e.opts)) (hl : e.opts.length ≤ 1048576) :
    Calls Try.prog 14 #[.agg (edL e T c)] w fun x w' => ∃ g : Nat, x = .returned (.agg (edL e (some ⟨g, 0, none⟩) e.opts.length)) ∧ ownV w' w.heap.size 159 3 (.slice (some ⟨g, 0, none⟩) e.opts.length e.opts.length) e.opts.length (opF e.opts) ∧ Below w.heap.size w w' := by
  have CT : Hid (∀ u : World, Below w.heap.size w u → Calls Try.prog 57 #[.slice T e.opts.length c] u fun x w' => ∃ g, x = .returned (.slice (some ⟨g, 0, none⟩) e.opts.length e.opts.length) ∧ ownV w' u.heap.size 159 3 (.slice (some ⟨g, 0, none⟩) e.opts.length e.opts.length) e.opts.length (opF e.opts) ∧ Below u.heap.size u w') := fun u hb => l_toOptS T c e.opts u (h.below hb) hl
  clear h hl
  obtain ⟨id, knd, loc, rem, net, df, sum, opts⟩ := e
  simp only [edL] at *
  generalize opF opts = cs at *
  go_enter Try.func14, Try.ntmps14
  go_wp2_with fail
  go_at_call 57
  refine (CT.out _ (by go_grown)).mono ?_
  rintro x w1 ⟨g, rfl, hown, hb⟩
  have hg' : w.heap.size + 3 ≤ g := by
    rcases hown.shape with ⟨hv, _⟩ | ⟨g2, cap, hv, hB, _⟩
    · simp at hv
    · simp at hv hB; omega
  have hB : Below w.heap.size w w1 := by
    refine Below.trans ?_ (hb.mono ?_)
    · go_grown
    · simp; omega
  have hO : ownV w1 w.heap.size 159 3 (.slice (some ⟨g, 0, none⟩) opts.length opts.length) opts.length cs := hown.mono (by simp; omega)
  obtain ⟨hc, hf⟩ := bcellE hb
  clear hb hown
  go_wp2
  refine bodyPost_ret (v := .agg #[.int .i64 id, .int .i64 knd, .int .i64 loc, .int .i64 rem, .int .i64 net, .bool df, .bool sum, .slice (some ⟨g, 0, none⟩) opts.length opts.length]) ?_ rfl ⟨g, rfl, ?_, ?_⟩
  · simp [results, Try.results14, go_sem, hc]
  · repeat (refine ownV.aside ?_ (by omega) _)
    exact hO
  · go_grown
set_option maxRecDepth 100000 in
set_option maxHeartbeats 1600000 in
theorem l_eqEnd (e : EdV) (T U : Option Addr) (c d : Nat) (w : World) (h : CellsAt w T (opF e.opts)) (k : CellsAt w U (opF e.opts)) (hl : e.opts.length ≤ 1099511627776) :
    Calls Try.prog 16 #[.agg (edL e T c), .agg (edL e U d)] w fun x w' => x = .returned (.bool true) ∧ Below w.heap.size w w' := by
  have CE : Hid (∀ u : World, Below w.heap.size w u → Calls Try.prog 63 #[.slice T e.opts.length c, .slice U e.opts.length d] u fun x w' => x = .returned (.bool true) ∧ Below u.heap.size u w') := fun u hb => l_eqOptS T U c d e.opts u (h.below hb) (k.below hb) hl
  have hb0 : ∀ cs ds, Below w.heap.size w ((w.alloc (.cells cs 29)).alloc (.cells ds 29)) := fun cs ds => ((Below.refl _ w).alloc (Nat.le_refl _) _).alloc (by simp) _
  clear h k hl
  obtain ⟨id, knd, loc, rem, net, df, sum, opts⟩ := e
  simp only [edL] at *
  go_enter Try.func16, Try.ntmps16
  go_wp2_with fail
  go_at_call 63
  refine (CE.out _ (hb0 _ _)).mono ?_
  rintro x w1 ⟨rfl, hb⟩
  go_wp2
  go_ret
  exact ⟨rfl, (hb0 _ _).trans (hb.mono (hb0 _ _).size)⟩
set_option maxRecDepth 100000 in
set_option maxHeartbeats 3200000 in
theorem walk_FnExactEndOk (e : EdV) (T : Option Addr) (c : Nat) (w : World) (h : CellsAt w T (opF e.opts)) (hm : e.opts.length ≤ maxLen) (hlong : opLong e.opts) :
    Calls Try.prog 3 #[.agg (edL e T c)] w fun x w' => x = .returned (.bool true) ∧ Below w.heap.size w w' := by
  unfold maxLen at hm
  have hb0 : Below w.heap.size w (w.alloc (.cells (edL e T c) 24)) := (Below.refl _ w).alloc (Nat.le_refl _) _
  by_cases hz : e.opts.length + opTot e.opts ≤ 1048576
  · have CZ : Hid (∀ u : World, Below w.heap.size w u → Calls Try.prog 12 #[.agg (edL e T c), .int .i64 1048576] u fun x w' => x = .returned (.int .i64 (1048576 - (e.opts.length : Int) - (opTot e.opts : Int))) ∧ Below u.heap.size u w') := fun u hb => l_szEnd_yes e T c u (h.below hb) hz
    have CT : Hid (∀ u : World, Below w.heap.size w u → Calls Try.prog 14 #[.agg (edL e T c)] u fun x w' => ∃ g : Nat, x = .returned (.agg (edL e (some ⟨g, 0, none⟩) e.opts.length)) ∧ ownV w' u.heap.size 159 3 (.slice (some ⟨g, 0, none⟩) e.opts.length e.opts.length) e.opts.length (opF e.opts) ∧ Below u.heap.size u w') := fun u hb => l_toEnd e T c u (h.below hb) (by omega)
    have CS : Hid (∀ (g : Nat) (u : World), CellsAt u (some ⟨g, 0, none⟩) (opF e.opts) → Calls Try.prog 13 #[.agg (edL e (some ⟨g, 0, none⟩) e.opts.length)] u fun x w' => x = .returned (.bool (edOk e)) ∧ Below u.heap.size u w') := fun g u h1 => s_EndOk e _ _ u h1 hz
    have CI : Hid (∀ (g : Nat) (u : World), CellsAt u (some ⟨g, 0, none⟩) (opF e.opts) → Calls Try.prog 15 #[.agg (edL e (some ⟨g, 0, none⟩) e.opts.length)] u fun x w' => x = .returned (.bool (edOk e)) ∧ Below u.heap.size u w') := fun g u h1 => i_EndOk e _ _ u h1 hz
    have CE : Hid (∀ (g g2 : Nat) (u : World), CellsAt u (some ⟨g, 0, none⟩) (opF e.opts) → CellsAt u (some ⟨g2, 0, none⟩) (opF e.opts) → Calls Try.prog 16 #[.agg (edL e (some ⟨g, 0, none⟩) e.opts.length), .agg (edL e (some ⟨g2, 0, none⟩) e.opts.length)] u fun x w' => x = .returned (.bool true) ∧ Below u.heap.size u w') := fun g g2 u h1 h2 => l_eqEnd e _ _ _ _ u h1 h2 (by omega)
    obtain ⟨lf, hlf, hlf'⟩ : ∃ lf : Int, lf ≤ 1048576 - (e.opts.length : Int) - (opTot e.opts : Int) ∧ 1048576 - (e.opts.length : Int) - (opTot e.opts : Int) ≤ lf := ⟨_, Int.le_refl _, Int.le_refl _⟩
    rw [show 1048576 - (e.opts.length : Int) - (opTot e.opts : Int) = lf from by omega] at CZ
    have hlf0 : 0 ≤ lf := by omega
    have hA : Bx (w.alloc (.cells (edL e T c) 24)) w.heap.size (edL e T c).toList := Bx.new w _ _
    clear h hm hlong hz hlf hlf'
    generalize edOk e = ok at *
    have hne : (ok != ok) = false := by simp
    obtain ⟨id, knd, loc, rem, net, df, sum, opts⟩ := e
    simp only [edL] at *
    generalize opF opts = cs at *
    generalize opts.length = n at *
    go_enter Try.func3, Try.ntmps3
    go_wp2_with fail
    go_at_call 12
    refine (CZ.out _ hb0).mono ?_
    rintro x w1 ⟨rfl, hb⟩
    have hB := hb0.trans (hb.mono hb0.size)
    replace hA := hA.below hb
    clear hb hb0
    have a0 := hA.2 0 _ rfl
    have a1 := hA.2 1 _ rfl
    have a2 := hA.2 2 _ rfl
    have a3 := hA.2 3 _ rfl
    have a4 := hA.2 4 _ rfl
    have a5 := hA.2 5 _ rfl
    have a6 := hA.2 6 _ rfl
    have a7 := hA.2 7 _ rfl
    go_wp2_with fail
    go_at_call 14
    refine (CT.out _ hB).mono ?_
    rintro x w2 ⟨g1, rfl, ho1, hb⟩
    go_wp2_with fail
    go_at_call 13
    refine (CS.out _ _ ho1.reads.2).mono ?_
    rintro x w3 ⟨rfl, hb3⟩
    have hb23 := hb.trans (hb3.mono hb.size)
    replace hB := hB.trans (hb23.mono hB.size)
    replace hA := hA.below hb23
    clear hb hb3 hb23 ho1 a0 a1 a2 a3 a4 a5 a6 a7
    have a0 := hA.2 0 _ rfl
    have a1 := hA.2 1 _ rfl
    have a2 := hA.2 2 _ rfl
    have a3 := hA.2 3 _ rfl
    have a4 := hA.2 4 _ rfl
    have a5 := hA.2 5 _ rfl
    have a6 := hA.2 6 _ rfl
    have a7 := hA.2 7 _ rfl
    go_wp2_with fail
    go_at_call 14
    refine (CT.out _ hB).mono ?_
    rintro x w4 ⟨g2, rfl, ho2, hb4⟩
    have hi2 := ho2.reads.2
    replace hB := hB.trans (hb4.mono hB.size)
    replace hA := hA.below hb4
    clear hb4 ho2 a0 a1 a2 a3 a4 a5 a6 a7
    have hX : Bx (w4.alloc (.cells #[.int .i64 id, .int .i64 knd, .int .i64 loc, .int .i64 rem, .int .i64 net, .bool df, .bool sum, .slice (some ⟨g2, 0, none⟩) n n] 29)) w4.heap.size [.int .i64 id, .int .i64 knd, .int .i64 loc, .int .i64 rem, .int .i64 net, .bool df, .bool sum, .slice (some ⟨g2, 0, none⟩) n n] := Bx.new w4 _ _
    have hb5 : Below w4.heap.size w4 (w4.alloc (.cells #[.int .i64 id, .int .i64 knd, .int .i64 loc, .int .i64 rem, .int .i64 net, .bool df, .bool sum, .slice (some ⟨g2, 0, none⟩) n n] 29)) := (Below.refl _ _).alloc (Nat.le_refl _) _
    go_wp2_with fail
    go_at_call 15
    refine (CI.out _ _ (hi2.below hb5)).mono ?_
    rintro x w6 ⟨rfl, hb6⟩
    replace hX := hX.below hb6
    have hb56 := hb5.trans (hb6.mono (by simp))
    replace hB := hB.trans (hb56.mono hB.size)
    replace hA := hA.below hb56
    replace hi2 := hi2.below hb56
    clear hb5 hb6 hb56
    have a0 := hA.2 0 _ rfl
    have a1 := hA.2 1 _ rfl
    have a2 := hA.2 2 _ rfl
    have a3 := hA.2 3 _ rfl
    have a4 := hA.2 4 _ rfl
    have a5 := hA.2 5 _ rfl
    have a6 := hA.2 6 _ rfl
    have a7 := hA.2 7 _ rfl
    have x0 := hX.2 0 _ rfl
    have x1 := hX.2 1 _ rfl
    have x2 := hX.2 2 _ rfl
    have x3 := hX.2 3 _ rfl
    have x4 := hX.2 4 _ rfl
    have x5 := hX.2 5 _ rfl
    have x6 := hX.2 6 _ rfl
    have x7 := hX.2 7 _ rfl
    go_wp2_with fail
    go_region_with (first
      | (go_at_call 14; refine (CT.out _ hB.drew).mono ?_; rintro x w7 ⟨g3, rfl, ho3, hb7⟩; have hi3 := ho3.reads.2; have hi4 := hi2.drew.below hb7; have hX7 := Bx.below (W := w6.drew) hX hb7; have y0 := hX7.2 0 _ rfl; have y1 := hX7.2 1 _ rfl; have y2 := hX7.2 2 _ rfl; have y3 := hX7.2 3 _ rfl; have y4 := hX7.2 4 _ rfl; have y5 := hX7.2 5 _ rfl; have y6 := hX7.2 6 _ rfl; have y7 := hX7.2 7 _ rfl)
      | (go_at_call 16; refine (CE.out _ _ _ hi4 hi3).mono ?_; rintro x w8 ⟨rfl, hb8⟩))
    all_goals
      go_wp2
      go_ret
      exact ⟨rfl, hB.trans ((((Below.refl _ _).drew).trans (hb7.trans (hb8.mono hb7.size))).mono hB.size)⟩
  · have CZ : Hid (∀ u : World, Below w.heap.size w u → Calls Try.prog 12 #[.agg (edL e T c), .int .i64 1048576] u fun x w' => x = .returned (.int .i64 (-1)) ∧ Below u.heap.size u w') := fun u hb => l_szEnd_no e T c u (h.below hb) (by omega) hlong (by omega)
    clear h hm hlong hz
    obtain ⟨id, knd, loc, rem, net, df, sum, opts⟩ := e
    simp only [edL] at *
    go_enter Try.func3, Try.ntmps3
    go_wp2_with fail
    go_at_call 12
    refine (CZ.out _ hb0).mono ?_
    rintro x w1 ⟨rfl, hb⟩
    go_wp2
    go_ret
    exact ⟨rfl, hb0.trans (hb.mono hb0.size)⟩
end Go.Proofs.Ytkeakjgojakanaa
