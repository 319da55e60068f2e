/-
  Ends mirrored: MirrorOf by the program and by the model.
-/
import Derived.Test.YtnheppkjeoiipaaMir1
namespace Go.Proofs.Ytnheppkjeoiipaa
open Go.RowKit Go.PlainAid
theorem Bx.belB {W W' : World} {b B : Nat} {vs : List Value} (h : Bx W b vs) (hb : Below B W W') (hB : b < B) : Bx W' b vs :=
  ⟨Nat.lt_of_lt_of_le h.1 hb.size, fun i v hv => (hb.cell (p := ⟨b, i, none⟩) hB).trans (h.2 i v hv)⟩
theorem Fx.belB {W W' : World} {b B : Nat} (h : Fx W b) (hb : Below B W W') (hB : b < B) : Fx W' b :=
  ⟨Nat.lt_of_lt_of_le h.1 hb.size, fun j => (hb.frozen (p := ⟨b, j, none⟩) hB).trans (h.2 j)⟩
set_option maxRecDepth 100000 in
set_option maxHeartbeats 3200000 in
theorem i_MirrorOf (e : EdV) (T : Option Addr) (c : Nat) (w : World) (h : CellsAt w T (opF e.opts)) (hT : T = none → e.opts.length = 0 ∧ c = 0) (hn : e.opts.length + opTot e.opts ≤ 1048576) :
    Calls Try.prog 18 #[.agg (edL e T c)] w fun x w' => ∃ T' c', x = .returned (.agg (edL (edM e) T' c')) ∧ ownV w' w.heap.size 33 3 (.slice T' (edM e).opts.length c') (edM e).opts.length (opF (edM e).opts) ∧ Below w.heap.size w w' := by
  have CE : Hid (∀ u : World, Below w.heap.size w u → Calls Try.prog 24 #[.agg (edL e T c)] u fun x w' => x = .returned (.bool (edOk e)) ∧ Below u.heap.size u w') := fun u hu => i_EndOk e T c u (h.below hu) hn
  have CO : Hid (∀ u : World, Below w.heap.size w u → Calls Try.prog 45 #[.agg (edL ⟨e.id, e.knd, e.rem, e.loc, e.net, e.df, e.sum, e.opts⟩ T c)] u fun x w' => ∃ T' c', x = .returned (.agg (edL ⟨e.id, e.knd, e.rem, e.loc, e.net, e.df, e.sum, e.opts⟩ T' c')) ∧ ownV w' u.heap.size 33 3 (.slice T' e.opts.length c') e.opts.length (opF e.opts) ∧ Below u.heap.size u w') := fun u hu => i_ownEnd ⟨e.id, e.knd, e.rem, e.loc, e.net, e.df, e.sum, e.opts⟩ T c u (h.below hu) hT hn
  have h2 := two_new w (edL e T c) 39
  cases hok : edOk e
  · have HM : edM e = ⟨0, 0, 0, 0, 0, false, false, []⟩ := by unfold edM; rw [hok]; rfl
    rw [HM]
    rw [hok] at CE
    clear HM h hT hn hok CO
    obtain ⟨id, knd, loc, rem, net, df, sum, opts⟩ := e
    simp only [edL] at *
    go_enter Try.func18, Try.ntmps18
    go_wp2_with fail
    obtain ⟨hA, hFA, hZ, hFZ, hB, hs0⟩ := h2
    generalize hW : (w.alloc _).alloc _ = w0 at *
    go_at_call 24
    refine (CE.out _ hB).mono ?_
    rintro x w1 ⟨rfl, hb⟩
    replace hA := hA.below hb
    replace hFA := hFA.below' hb
    replace hZ := hZ.below hb
    replace hFZ := hFZ.below' hb
    replace hB := hB.trans (hb.mono hB.size)
    have hs1 := hb.size
    rw [hs0] at hs1
    clear hb hs0 hW CE
    have a0 := hA.2 0 _ rfl
    have a1 := hA.2 1 _ rfl
    have a2 := hA.2 2 _ rfl
    have a3 := hA.2 3 _ rfl
    have a4 := hA.2 4 _ rfl
    have a5 := hA.2 5 _ rfl
    have a6 := hA.2 6 _ rfl
    have a7 := hA.2 7 _ rfl
    have z0 := hZ.2 0 _ rfl
    have z1 := hZ.2 1 _ rfl
    have z2 := hZ.2 2 _ rfl
    have z3 := hZ.2 3 _ rfl
    have z4 := hZ.2 4 _ rfl
    have z5 := hZ.2 5 _ rfl
    have z6 := hZ.2 6 _ rfl
    have z7 := hZ.2 7 _ rfl
    have f0 := hFZ.2
    have g0 := hFA.2
    go_wp2
    refine bodyPost_ret (v := .agg #[.int .i64 0, .int .i64 0, .int .i64 0, .int .i64 0, .int .i64 0, .bool false, .bool false, .slice none 0 0]) ?_ rfl ⟨none, 0, rfl, ownV.nil _ _ _ _, ?_⟩
    · simp [results, Try.results18, go_sem, z0, z1, z2, z3, z4, z5, z6, z7]
    · go_grown
  · have HM : edM e = ⟨e.id, e.knd, e.rem, e.loc, e.net, e.df, e.sum, e.opts⟩ := by unfold edM; rw [hok]; rfl
    rw [HM]
    rw [hok] at CE
    clear HM h hn hok hT
    obtain ⟨id, knd, loc, rem, net, df, sum, opts⟩ := e
    simp only [edL] at *
    go_enter Try.func18, Try.ntmps18
    go_wp2_with fail
    obtain ⟨hA, hFA, hZ, hFZ, hB, hs0⟩ := h2
    generalize hW : (w.alloc _).alloc _ = w0 at *
    go_at_call 24
    refine (CE.out _ hB).mono ?_
    rintro x w1 ⟨rfl, hb⟩
    replace hA := hA.below hb
    replace hFA := hFA.below' hb
    replace hZ := hZ.below hb
    replace hFZ := hFZ.below' hb
    replace hB := hB.trans (hb.mono hB.size)
    have hs1 := hb.size
    rw [hs0] at hs1
    clear hb hs0 hW CE
    have a0 := hA.2 0 _ rfl
    have a1 := hA.2 1 _ rfl
    have a2 := hA.2 2 _ rfl
    have a3 := hA.2 3 _ rfl
    have a4 := hA.2 4 _ rfl
    have a5 := hA.2 5 _ rfl
    have a6 := hA.2 6 _ rfl
    have a7 := hA.2 7 _ rfl
    have z0 := hZ.2 0 _ rfl
    have z1 := hZ.2 1 _ rfl
    have z2 := hZ.2 2 _ rfl
    have z3 := hZ.2 3 _ rfl
    have z4 := hZ.2 4 _ rfl
    have z5 := hZ.2 5 _ rfl
    have z6 := hZ.2 6 _ rfl
    have z7 := hZ.2 7 _ rfl
    have f0 := hFZ.2
    have g0 := hFA.2
    go_wp2_with fail
    have hB2 : Below w.heap.size w ((w1.setCell ⟨w.heap.size, 2, none⟩ (.int .i64 rem)).setCell ⟨w.heap.size, 3, none⟩ (.int .i64 loc)) := (hB.setCell (p := ⟨w.heap.size, 2, none⟩) (Nat.le_refl _) _).setCell (p := ⟨w.heap.size, 3, none⟩) (Nat.le_refl _) _
    have hZ2 := (hZ.oth (c := w.heap.size) (j := 2) (by omega) (.int .i64 rem)).oth (c := w.heap.size) (j := 3) (by omega) (.int .i64 loc)
    have hFZ2 := (hFZ.put ⟨w.heap.size, 2, none⟩ (.int .i64 rem)).put ⟨w.heap.size, 3, none⟩ (.int .i64 loc)
    have hs2 : w.heap.size + 2 ≤ ((w1.setCell ⟨w.heap.size, 2, none⟩ (.int .i64 rem)).setCell ⟨w.heap.size, 3, none⟩ (.int .i64 loc)).heap.size := by simp; omega
    generalize hWW : (w1.setCell _ _).setCell _ _ = w2 at *
    clear hWW hA hFA hZ hFZ hB a0 a1 a2 a3 a4 a5 a6 a7 z0 z1 z2 z3 z4 z5 z6 z7 f0 g0
    go_at_call 45
    refine (CO.out _ hB2).mono ?_
    rintro x w3 ⟨T', c', rfl, hv, hb⟩
    replace hZ2 := hZ2.below hb
    replace hFZ2 := hFZ2.below' hb
    replace hB2 := hB2.trans (hb.mono hB2.size)
    replace hv := hv.mono hs2
    clear hb hs2
    have z0 := hZ2.2 0 _ rfl
    have z1 := hZ2.2 1 _ rfl
    have z2 := hZ2.2 2 _ rfl
    have z3 := hZ2.2 3 _ rfl
    have z4 := hZ2.2 4 _ rfl
    have z5 := hZ2.2 5 _ rfl
    have z6 := hZ2.2 6 _ rfl
    have z7 := hZ2.2 7 _ rfl
    have f0 := hFZ2.2
    go_wp2
    refine bodyPost_ret (v := .agg #[.int .i64 id, .int .i64 knd, .int .i64 rem, .int .i64 loc, .int .i64 net, .bool df, .bool sum, .slice T' opts.length c']) ?_ rfl ⟨T', c', rfl, ?_, ?_⟩
    · simp [results, Try.results18, go_sem, z0, z1, z2, z3, z4, z5, z6, z7]
    · refine ownV.mono (B := w.heap.size + 2) ?_ (by omega)
      iterate 8 (refine ownV.lowset ?_ (by omega) _)
      exact hv
    · go_grown
set_option maxRecDepth 100000 in
set_option maxHeartbeats 3200000 in
theorem s_MirrorOf (e : EdV) (T : Option Addr) (c : Nat) (w : World) (h : CellsAt w T (opF e.opts)) (hT : T = none → e.opts.length = 0 ∧ c = 0) (hn : e.opts.length + opTot e.opts ≤ 1048576) :
    Calls Try.prog 16 #[.agg (edL e T c)] w fun x w' => ∃ T' c', x = .returned (.agg (edL (edM e) T' c')) ∧ ownV w' w.heap.size 33 3 (.slice T' (edM e).opts.length c') (edM e).opts.length (opF (edM e).opts) ∧ Below w.heap.size w w' := by
  have CE : Hid (∀ u : World, Below w.heap.size w u → Calls Try.prog 25 #[.agg (edL e T c)] u fun x w' => x = .returned (.bool (edOk e)) ∧ Below u.heap.size u w') := fun u hu => s_EndOk e T c u (h.below hu) hn
  have h2 := two_new w (edL e T c) 39
  cases hok : edOk e
  · have HM : edM e = ⟨0, 0, 0, 0, 0, false, false, []⟩ := by unfold edM; rw [hok]; rfl
    rw [HM]
    rw [hok] at CE
    clear HM h hT hn hok
    obtain ⟨id, knd, loc, rem, net, df, sum, opts⟩ := e
    simp only [edL] at *
    go_enter Try.func16, Try.ntmps16
    go_wp2_with fail
    obtain ⟨hA, hFA, hZ, hFZ, hB, hs0⟩ := h2
    generalize hW : (w.alloc _).alloc _ = w0 at *
    go_at_call 25
    refine (CE.out _ hB).mono ?_
    rintro x w1 ⟨rfl, hb⟩
    replace hA := hA.below hb
    replace hFA := hFA.below' hb
    replace hZ := hZ.below hb
    replace hFZ := hFZ.below' hb
    replace hB := hB.trans (hb.mono hB.size)
    have hs1 := hb.size
    rw [hs0] at hs1
    clear hb hs0 hW CE
    have a0 := hA.2 0 _ rfl
    have a1 := hA.2 1 _ rfl
    have a2 := hA.2 2 _ rfl
    have a3 := hA.2 3 _ rfl
    have a4 := hA.2 4 _ rfl
    have a5 := hA.2 5 _ rfl
    have a6 := hA.2 6 _ rfl
    have a7 := hA.2 7 _ rfl
    have z0 := hZ.2 0 _ rfl
    have z1 := hZ.2 1 _ rfl
    have z2 := hZ.2 2 _ rfl
    have z3 := hZ.2 3 _ rfl
    have z4 := hZ.2 4 _ rfl
    have z5 := hZ.2 5 _ rfl
    have z6 := hZ.2 6 _ rfl
    have z7 := hZ.2 7 _ rfl
    have f0 := hFZ.2
    have g0 := hFA.2
    go_wp2
    refine bodyPost_ret (v := .agg #[.int .i64 0, .int .i64 0, .int .i64 0, .int .i64 0, .int .i64 0, .bool false, .bool false, .slice none 0 0]) ?_ rfl ⟨none, 0, rfl, ownV.nil _ _ _ _, ?_⟩
    · simp [results, Try.results16, go_sem, z0, z1, z2, z3, z4, z5, z6, z7]
    · go_grown
  · have HM : edM e = ⟨e.id, e.knd, e.rem, e.loc, e.net, e.df, e.sum, e.opts⟩ := by unfold edM; rw [hok]; rfl
    rw [HM]
    rw [hok] at CE
    have hC := fun (u : World) (hu : Below w.heap.size w u) => h.below hu
    have hone := oneOps e.opts
    have hfl := opF_len e.opts
    have hl : e.opts.length ≤ 1048576 := by omega
    replace hC : Hid (∀ u, Below w.heap.size w u → CellsAt u T (opF e.opts)) := hC
    clear HM h hn hok
    obtain ⟨id, knd, loc, rem, net, df, sum, opts⟩ := e
    simp only [edL] at *
    go_enter Try.func16, Try.ntmps16
    go_wp2_with fail
    obtain ⟨hA, hFA, hZ, hFZ, hB, hs0⟩ := h2
    generalize hW : (w.alloc _).alloc _ = w0 at *
    go_at_call 25
    refine (CE.out _ hB).mono ?_
    rintro x w1 ⟨rfl, hb⟩
    replace hA := hA.below hb
    replace hFA := hFA.below' hb
    replace hZ := hZ.below hb
    replace hFZ := hFZ.below' hb
    replace hB := hB.trans (hb.mono hB.size)
    have hs1 := hb.size
    rw [hs0] at hs1
    clear hb hs0 hW CE
    have a0 := hA.2 0 _ rfl
    have a1 := hA.2 1 _ rfl
    have a2 := hA.2 2 _ rfl
    have a3 := hA.2 3 _ rfl
    have a4 := hA.2 4 _ rfl
    have a5 := hA.2 5 _ rfl
    have a6 := hA.2 6 _ rfl
    have a7 := hA.2 7 _ rfl
    have z0 := hZ.2 0 _ rfl
    have z1 := hZ.2 1 _ rfl
    have z2 := hZ.2 2 _ rfl
    have z3 := hZ.2 3 _ rfl
    have z4 := hZ.2 4 _ rfl
    have z5 := hZ.2 5 _ rfl
    have z6 := hZ.2 6 _ rfl
    have z7 := hZ.2 7 _ rfl
    have f0 := hFZ.2
    have g0 := hFA.2
    have hq := fun o => (Below.refl w1.heap.size w1).alloc (Nat.le_refl _) o
    have b2 := fun o => (hA.below (hq o)).2 2 _ rfl
    have b3 := fun o => (hA.below (hq o)).2 3 _ rfl
    have b7 := fun o => (hA.below (hq o)).2 7 _ rfl
    have b7b := fun o o' => ((hA.below (hq o)).below ((Below.refl _ (w1.alloc o)).alloc (Nat.le_refl _) o')).2 7 _ rfl
    have hne1 : ¬ (w.heap.size = w1.heap.size) := by omega
    have hne2 : ¬ (w1.heap.size = w.heap.size) := by omega
    have hq1 := hq (.cells #[.int .i64 id, .int .i64 knd, .int .i64 rem, .int .i64 loc, .int .i64 net, .bool df, .bool sum, .slice T opts.length c] 39)
    have hq2 := (Below.refl _ (w1.alloc (.cells #[.int .i64 id, .int .i64 knd, .int .i64 rem, .int .i64 loc, .int .i64 net, .bool df, .bool sum, .slice T opts.length c] 39))).alloc (Nat.le_refl _) (.cells #[] 33)
    have hX := (Bx.new w1 #[.int .i64 id, .int .i64 knd, .int .i64 rem, .int .i64 loc, .int .i64 net, .bool df, .bool sum, .slice T opts.length c] 39).below hq2
    have hFX := (Fx.new w1 #[.int .i64 id, .int .i64 knd, .int .i64 rem, .int .i64 loc, .int .i64 net, .bool df, .bool sum, .slice T opts.length c] 39).below' hq2
    have hZ1 := (hZ.below hq1).below hq2
    have hFZ1 := (hFZ.below' hq1).below' hq2
    have hB1 := (hB.trans (hq1.mono hB.size)).trans (hq2.mono (by have := hB.size; simp; omega))
    have hcs := hC.out _ hB1
    have hO0 : ownV ((w1.alloc (.cells #[.int .i64 id, .int .i64 knd, .int .i64 rem, .int .i64 loc, .int .i64 net, .bool df, .bool sum, .slice T opts.length c] 39)).alloc (.cells #[] 33)) (w1.heap.size + 1) 33 3 (.slice (some ⟨w1.heap.size + 1, 0, none⟩) 0 0) 0 [] := by
      have e : (w1.alloc (.cells #[.int .i64 id, .int .i64 knd, .int .i64 rem, .int .i64 loc, .int .i64 net, .bool df, .bool sum, .slice T opts.length c] 39)).heap.size = w1.heap.size + 1 := by simp
      have := World.ownsRow_made (w1.alloc (.cells #[.int .i64 id, .int .i64 knd, .int .i64 rem, .int .i64 loc, .int .i64 net, .bool df, .bool sum, .slice T opts.length c] 39)) (e := 33) (size := 3) #[] 0 (Nat.le_refl _) (by decide) rfl
      rw [e] at this
      exact this
    clear hq hA hFA hZ hFZ hB z0 z1 z2 z3 z4 z5 z6 z7 f0 g0 hC hq1 hq2
    go_wp2_with (at_builtin; refine wpList_append_vals Try.infOpt rfl _ _ rfl (w1.heap.size + 1) _ 0 [] rfl hO0 T opts.length c (opF opts) rfl hT hfl hone hcs (by omega) (by simp) ?_; intro v' w3 hv hb; rw [Nat.zero_add, List.nil_append] at hv; obtain ⟨T', c', rfl⟩ := hv.form; have hX' := hX.belB hb (by omega); have hFX' := hFX.belB hb (by omega); have hZ' := hZ1.belB hb (by omega); have hFZ' := hFZ1.belB hb (by omega); have hB' := hB1.trans (hb.mono (by omega)); have x0 := hX'.2 0 _ rfl; have x1 := hX'.2 1 _ rfl; have x2 := hX'.2 2 _ rfl; have x3 := hX'.2 3 _ rfl; have x4 := hX'.2 4 _ rfl; have x5 := hX'.2 5 _ rfl; have x6 := hX'.2 6 _ rfl; have x7 := hX'.2 7 _ rfl; have z0 := hZ'.2 0 _ rfl; have z1 := hZ'.2 1 _ rfl; have z2 := hZ'.2 2 _ rfl; have z3 := hZ'.2 3 _ rfl; have z4 := hZ'.2 4 _ rfl; have z5 := hZ'.2 5 _ rfl; have z6 := hZ'.2 6 _ rfl; have z7 := hZ'.2 7 _ rfl; have fx := hFX'.2; have f0 := hFZ'.2; have hne3 : ¬ (w.heap.size + 1 = w1.heap.size) := (by omega); have hne4 : ¬ (w1.heap.size = w.heap.size + 1) := (by omega); clear hX hFX hZ1 hFZ1 hB1 hO0 hcs b2 b3 b7 b7b a0 a1 a2 a3 a4 a5 a6 a7)
    refine bodyPost_ret (v := .agg #[.int .i64 id, .int .i64 knd, .int .i64 rem, .int .i64 loc, .int .i64 net, .bool df, .bool sum, .slice T' opts.length c']) ?_ rfl ⟨T', c', rfl, ?_, ?_⟩
    · simp [results, Try.results16, go_sem, z0, z1, z2, z3, z4, z5, z6, z7]
    · refine ownV.mono (B := w1.heap.size + 1) ?_ (by omega)
      iterate 9 (refine ownV.lowset ?_ (by omega) _)
      exact hv
    · go_grown
end Go.Proofs.Ytnheppkjeoiipaa
