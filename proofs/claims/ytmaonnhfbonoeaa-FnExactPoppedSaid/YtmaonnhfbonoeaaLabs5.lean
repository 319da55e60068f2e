/-
  The exact law on labels that are popped.
-/
import Derived.Test.YtmaonnhfbonoeaaLabs4
import Derived.Test.YtmaonnhfbonoeaaTabs0
import Derived.Deep.RegionWith
import Derived.Deep.CutRange
namespace Go.Proofs.Ytmaonnhfbonoeaa
open Go.RowKit Go.PlainAid
set_option maxRecDepth 100000 in
set_option maxHeartbeats 6400000 in
theorem walk_FnExactPopped (T : Option Addr) (c : Nat) (l : List LbV) (w : World) (h : IntsAt w T (lbF l)) (hl : l.length ≤ maxLen) :
    Calls Try.prog 12 #[.slice T l.length c] w fun e w' => e = .returned (.bool true) ∧ Below w.heap.size w w' := by
  unfold maxLen at hl
  have CZ : Hid (∀ u : World, Calls Try.prog 33 #[.slice T l.length c, .int .i64 1048576] u fun e w' => e = .returned (.int .i64 (if l.length ≤ 1048576 then 1048576 - (l.length : Int) else -1)) ∧ w' = u) := fun u => l_szLabel T l.length c u (by omega)
  by_cases hz : l.length ≤ 1048576
  · rw [if_pos hz] at CZ
    have CT : Hid (∀ u : World, Below w.heap.size w u → Calls Try.prog 35 #[.slice T l.length c] u fun e w' => ∃ g, e = .returned (.slice (some ⟨g, 0, none⟩) l.length l.length) ∧ ownR w' u.heap.size 61 3 (.slice (some ⟨g, 0, none⟩) l.length l.length) l.length (lbF l) ∧ Below u.heap.size u w') := fun u hu => l_toLabelS T c l u (h.below hu) hz
    have CS : Hid (∀ (g : Nat) (u : World), IntsAt u (some ⟨g, 0, none⟩) (lbF l) → Calls Try.prog 45 #[.slice (some ⟨g, 0, none⟩) l.length l.length] u fun e w' => ∃ v, e = .returned (.tuple #[v, .agg (lbL (poQ l)), .bool (poB l)]) ∧ ownR w' u.heap.size 61 3 v (poR l).length (lbF (poR l)) ∧ Below u.heap.size u w') := fun g u hu => s_Popped _ _ _ l u hu (Nat.le_refl _) hz
    have CI : Hid (∀ (g : Nat) (u : World), IntsAt u (some ⟨g, 0, none⟩) (lbF l) → Calls Try.prog 46 #[.slice (some ⟨g, 0, none⟩) l.length l.length] u fun e w' => ∃ v, e = .returned (.tuple #[v, .agg (lbL (poQ l)), .bool (poB l)]) ∧ ownR w' u.heap.size 61 3 v (poR l).length (lbF (poR l)) ∧ Below u.heap.size u w') := fun g u hu => i_Popped _ _ _ l u hu (Nat.le_refl _) hz
    have CE : Hid (∀ (m : List LbV) (S1 S2 : Option Addr) (c1 c2 : Nat) (u : World), m.length ≤ 1099511627776 → IntsAt u S1 (lbF m) → IntsAt u S2 (lbF m) → Calls Try.prog 37 #[.slice S1 m.length c1, .slice S2 m.length c2] u fun e w' => e = .returned (.bool true) ∧ Below u.heap.size u w') := fun m S1 S2 c1 c2 u hm h1 h2 => l_eqLabelS S1 S2 c1 c2 m u h1 h2 hm
    have CQ : Hid (∀ u : World, Calls Try.prog 47 #[.agg (lbL (poQ l)), .agg (lbL (poQ l))] u fun e w' => e = .returned (.bool true) ∧ Below u.heap.size u w') := fun u => l_eqLabel (poQ l) u
    have hrl := poR_len l
    generalize poR l = pr at *
    generalize poB l = pb at *
    generalize poQ l = qq at *
    obtain ⟨x, y, z⟩ := qq
    simp only [lbL] at *
    have hB := Below.refl w.heap.size w
    have hpb : (pb != pb) = false := by simp
    go_enter Try.func12, Try.ntmps12
    go_wp2_with fail
    go_at_call 33
    refine (CZ.out _).mono ?_
    rintro e wz ⟨rfl, hz1⟩
    rw [hz1]
    clear hz1 wz
    go_wp2_with fail
    go_at_call 35
    refine (CT.out _ hB).mono ?_
    rintro e w1 ⟨g1, rfl, ho1, hb⟩
    replace hB := hB.trans (hb.mono hB.size)
    clear hb
    go_wp2_with fail
    go_at_call 45
    refine (CS.out _ _ ho1.reads.2).mono ?_
    rintro e wc0 ⟨vW, rfl, hW, hb⟩
    obtain ⟨TW, cW, rfl⟩ := hW.form
    replace hB := hB.trans (hb.mono hB.size)
    clear hb ho1
    have hAW : Bxl (wc0.alloc (.cells #[.int .i64 x, .int .i64 y, .int .i64 z] 61)) wc0.heap.size ⟨x, y, z⟩ := Bxl.new wc0 ⟨x, y, z⟩
    replace hW := hW.alloc (.cells #[.int .i64 x, .int .i64 y, .int .i64 z] 61)
    replace hB := hB.alloc hB.size (.cells #[.int .i64 x, .int .i64 y, .int .i64 z] 61)
    go_wp2_with fail
    generalize hWg : wc0.alloc _ = wc at *
    clear hWg
    have lW := World.ownsRow.lt hW
    have zW := hAW.1
    go_wp2_with fail
    go_at_call 35
    refine (CT.out _ hB).mono ?_
    rintro e w3 ⟨g2, rfl, hX, hb⟩
    have lX := World.ownsRow.lt hX
    have b23 := hb.size
    have bX := hB.size
    replace hW := hW.far hb
    replace hAW := hAW.below hb
    replace hB := hB.trans (hb.mono hB.size)
    clear hb
    go_wp2_with fail
    go_at_call 46
    refine (CI.out _ _ hX.reads.2).mono ?_
    rintro e w40 ⟨vG, rfl, hG, hb⟩
    obtain ⟨TG, cG, rfl⟩ := hG.form
    have lG := World.ownsRow.lt hG
    have bG := hB.size
    have b34 := hb.size
    replace hW := hW.far hb
    replace hX := hX.far hb
    replace hAW := hAW.below hb
    replace hB := hB.trans (hb.mono hB.size)
    clear hb
    have hAG : Bxl (w40.alloc (.cells #[.int .i64 x, .int .i64 y, .int .i64 z] 61)) w40.heap.size ⟨x, y, z⟩ := Bxl.new w40 ⟨x, y, z⟩
    have hb := (Below.refl w40.heap.size w40).alloc (Nat.le_refl _) (.cells #[.int .i64 x, .int .i64 y, .int .i64 z] 61)
    replace hW := hW.far hb
    replace hX := hX.far hb
    replace hG := hG.far hb
    replace hAW := hAW.below hb
    replace hB := hB.trans (hb.mono hB.size)
    clear hb
    go_wp2_with fail
    generalize hWg : w40.alloc _ = w4 at *
    clear hWg
    have zG := hAG.1
    go_wp2_with fail
    go_at_call 37
    refine (CE.out pr _ _ _ _ _ (by omega) hG.reads.2 hW.reads.2).mono ?_
    rintro e w5 ⟨rfl, hb⟩
    replace hW := hW.far hb
    replace hX := hX.far hb
    replace hG := hG.far hb
    replace hAW := hAW.below hb
    replace hAG := hAG.below hb
    replace hB := hB.trans (hb.mono hB.size)
    clear hb
    have p0 := hAG.2.1
    have p1 := hAG.2.2.1
    have p2 := hAG.2.2.2
    have r0 := hAW.2.1
    have r1 := hAW.2.2.1
    have r2 := hAW.2.2.2
    go_wp2_with fail
    go_at_call 47
    refine (CQ.out _).mono ?_
    rintro e w51 ⟨rfl, hb⟩
    clear p0 p1 p2 r0 r1 r2
    replace hW := hW.far hb
    replace hX := hX.far hb
    replace hG := hG.far hb
    replace hAW := hAW.below hb
    replace hAG := hAG.below hb
    replace hB := hB.trans (hb.mono hB.size)
    clear hb
    go_wp2_with fail
    go_at_call 35
    refine (CT.out _ hB).mono ?_
    rintro e w6 ⟨g3, rfl, hY, hb⟩
    replace hW := hW.far hb
    replace hX := hX.far hb
    replace hG := hG.far hb
    replace hAW := hAW.below hb
    replace hAG := hAG.below hb
    replace hB := hB.trans (hb.mono hB.size)
    clear hb
    go_wp2_with fail
    go_at_call 37
    refine (CE.out l _ _ _ _ _ (by omega) hX.reads.2 hY.reads.2).mono ?_
    rintro e w7 ⟨rfl, hb⟩
    clear hY
    replace hW := hW.far hb
    replace hX := hX.far hb
    replace hG := hG.far hb
    replace hAW := hAW.below hb
    replace hAG := hAG.below hb
    replace hB := hB.trans (hb.mono hB.size)
    clear hb
    have CM1 : Hid (∀ u : World, u = w7 → Calls Try.prog 40 #[.slice (some ⟨g2, 0, none⟩) l.length l.length, .int .i64 1] u fun e w' => e = .returned (.int .i64 (1 + (l.length : Int) * 3)) ∧ ownR w' wc.heap.size 61 3 (.slice (some ⟨g2, 0, none⟩) l.length l.length) l.length (marks (l.length * 3)) ∧ u.grownBy w' (Value.slice (some ⟨g2, 0, none⟩) l.length l.length).ownBlock) := by
      rintro u rfl; exact l_markLabelS _ _ _ _ _ u hX (by omega)
    go_wp2_with fail
    go_at_call 40
    refine (CM1.out _ rfl).mono ?_
    rintro e w8 ⟨rfl, _, hg⟩
    replace hW := own_kept hW hg (fun b hb => by have := (lW b hb).2; have := bX; intro hx; have := (lX b hx).1; omega)
    replace hG := own_kept hG hg (fun b hb => by have := (lG b hb).1; intro hx; have := (lX b hx).2; omega)
    replace hAW := hAW.grown hg (fun b hb => by have := lX b hb; omega)
    replace hAG := hAG.grown hg (fun b hb => by have := lX b hb; omega)
    replace hB := hB.grown hg hB.size (fun b hb => by have := (lX b hb).1; omega)
    clear CM1 hX hg
    have hk1 : ¬ (1 + (l.length : Int) * 3 < 0) := by omega
    have hk2 : decide (1 + (l.length : Int) * 3 < 0) = false := by simp; omega
    go_wp2_with fail
    go_at_call 37
    refine (CE.out pr _ _ _ _ _ (by omega) hG.reads.2 hW.reads.2).mono ?_
    rintro e w9 ⟨rfl, hb⟩
    replace hW := hW.far hb
    replace hG := hG.far hb
    replace hAW := hAW.below hb
    replace hAG := hAG.below hb
    replace hB := hB.trans (hb.mono hB.size)
    clear hb
    have p0 := hAG.2.1
    have p1 := hAG.2.2.1
    have p2 := hAG.2.2.2
    have r0 := hAW.2.1
    have r1 := hAW.2.2.1
    have r2 := hAW.2.2.2
    go_wp2_with fail
    go_at_call 47
    refine (CQ.out _).mono ?_
    rintro e w91 ⟨rfl, hb⟩
    clear p0 p1 p2 r0 r1 r2
    replace hW := hW.far hb
    replace hG := hG.far hb
    replace hAW := hAW.below hb
    replace hAG := hAG.below hb
    replace hB := hB.trans (hb.mono hB.size)
    clear hb
    have CM2 : Hid (∀ u : World, u = w91 → Calls Try.prog 40 #[.slice TG pr.length cG, .int .i64 1] u fun e w' => e = .returned (.int .i64 (1 + (pr.length : Int) * 3)) ∧ ownR w' w3.heap.size 61 3 (.slice TG pr.length cG) pr.length (marks (pr.length * 3)) ∧ u.grownBy w' (Value.slice TG pr.length cG).ownBlock) := by
      rintro u rfl; exact l_markLabelS _ _ _ _ _ u hG (by omega)
    go_wp2_with fail
    go_at_call 40
    refine (CM2.out _ rfl).mono ?_
    rintro e w10 ⟨rfl, hM, hg⟩
    replace hW := own_kept hW hg (fun b hb => by have := (lW b hb).2; intro hx; have := (lG b hx).1; omega)
    replace hAW := hAW.grown hg (fun b hb => by have := lG b hb; omega)
    replace hAG := hAG.grown hg (fun b hb => by have := lG b hb; omega)
    replace hB := hB.grown hg hB.size (fun b hb => by have := (lG b hb).1; omega)
    clear CM2 hG hg
    have CH : Hid (∀ u : World, ownR u w3.heap.size 61 3 (.slice TG pr.length cG) pr.length (marks (pr.length * 3)) → Calls Try.prog 41 #[.slice TG pr.length cG, .int .i64 1] u fun e w' => e = .returned (.int .i64 (1 + (pr.length : Int) * 3)) ∧ Below u.heap.size u w') := fun u hu => l_heldLabelS _ _ _ _ u hu (by omega)
    have hq1 : ¬ (1 + (pr.length : Int) * 3 < 0) := by omega
    have hq2 : ((1 + (pr.length : Int) * 3) != (1 + (pr.length : Int) * 3)) = false := by simp
    go_wp2_with fail
    go_at_call 41
    refine (CH.out _ hM).mono ?_
    rintro e w11 ⟨rfl, hb⟩
    replace hW := hW.far hb
    replace hM := hM.far hb
    replace hAW := hAW.below hb
    replace hAG := hAG.below hb
    replace hB := hB.trans (hb.mono hB.size)
    clear hb
    go_wp2_with fail
    go_at_call 35
    refine (CT.out _ hB).mono ?_
    rintro e w12 ⟨g4, rfl, hY, hb⟩
    replace hW := hW.far hb
    replace hM := hM.far hb
    replace hAW := hAW.below hb
    replace hAG := hAG.below hb
    replace hB := hB.trans (hb.mono hB.size)
    clear hb
    go_wp2_with fail
    go_at_call 46
    refine (CI.out _ _ hY.reads.2).mono ?_
    rintro e w130 ⟨vK, rfl, hK, hb⟩
    obtain ⟨TK, cK, rfl⟩ := hK.form
    clear hY
    replace hW := hW.far hb
    replace hM := hM.far hb
    replace hAW := hAW.below hb
    replace hAG := hAG.below hb
    replace hB := hB.trans (hb.mono hB.size)
    clear hb
    have hAK : Bxl (w130.alloc (.cells #[.int .i64 x, .int .i64 y, .int .i64 z] 61)) w130.heap.size ⟨x, y, z⟩ := Bxl.new w130 ⟨x, y, z⟩
    have hb := (Below.refl w130.heap.size w130).alloc (Nat.le_refl _) (.cells #[.int .i64 x, .int .i64 y, .int .i64 z] 61)
    replace hW := hW.far hb
    replace hM := hM.far hb
    replace hK := hK.far hb
    replace hAW := hAW.below hb
    replace hAG := hAG.below hb
    replace hB := hB.trans (hb.mono hB.size)
    clear hb
    go_wp2_with fail
    generalize hWg : w130.alloc _ = w13 at *
    clear hWg
    go_wp2_with fail
    go_at_call 37
    refine (CE.out pr _ _ _ _ _ (by omega) hK.reads.2 hW.reads.2).mono ?_
    rintro e w14 ⟨rfl, hb⟩
    replace hM := hM.far hb
    replace hAW := hAW.below hb
    replace hAG := hAG.below hb
    replace hAK := hAK.below hb
    replace hB := hB.trans (hb.mono hB.size)
    clear hb
    have p0 := hAK.2.1
    have p1 := hAK.2.2.1
    have p2 := hAK.2.2.2
    have r0 := hAW.2.1
    have r1 := hAW.2.2.1
    have r2 := hAW.2.2.2
    go_wp2_with fail
    go_at_call 47
    refine (CQ.out _).mono ?_
    rintro e w141 ⟨rfl, hb⟩
    clear p0 p1 p2 r0 r1 r2
    replace hM := hM.far hb
    replace hAW := hAW.below hb
    replace hAG := hAG.below hb
    replace hAK := hAK.below hb
    replace hB := hB.trans (hb.mono hB.size)
    clear hb
    go_wp2_with fail
    go_at_call 41
    refine (CH.out _ hM).mono ?_
    rintro e w15 ⟨rfl, hb⟩
    replace hB := hB.trans (hb.mono hB.size)
    clear hb
    go_wp2
    go_ret
    exact ⟨rfl, hB⟩
  · rw [if_neg hz] at CZ
    go_enter Try.func12, Try.ntmps12
    go_wp2_with (go_at_call 33; refine (CZ.out _).mono ?_; rintro e wz ⟨rfl, hz1⟩; rw [hz1]; clear hz1 wz)
    go_ret
    exact ⟨rfl, Below.refl _ _⟩
end Go.Proofs.Ytmaonnhfbonoeaa
