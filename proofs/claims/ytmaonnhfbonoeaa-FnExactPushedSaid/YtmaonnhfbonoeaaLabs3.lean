/-
  The exact law on labels that are pushed.
-/
import Derived.Test.YtmaonnhfbonoeaaLabs2
import Derived.Test.YtmaonnhfbonoeaaTabs0
import Derived.Deep.RegionWith
import Derived.Deep.CutRange
namespace Go.Proofs.Ytmaonnhfbonoeaa
open Go.RowKit Go.PlainAid
set_option maxRecDepth 100000 in
set_option maxHeartbeats 6400000 in
theorem walk_FnExactPushed (T : Option Addr) (c : Nat) (l : List LbV) (a : LbV) (w : World) (h : IntsAt w T (lbF l)) (hl : l.length ≤ maxLen) :
    Calls Try.prog 11 #[.slice T l.length c, .agg (lbL a)] w fun e w' => e = .returned (.bool true) ∧ Below w.heap.size w w' := by
  unfold maxLen at hl
  have CZ : Hid (∀ u : World, Calls Try.prog 33 #[.slice T l.length c, .int .i64 1048576] u fun e w' => e = .returned (.int .i64 (if l.length ≤ 1048576 then 1048576 - (l.length : Int) else -1)) ∧ w' = u) := fun u => l_szLabel T l.length c u (by omega)
  by_cases hz : l.length ≤ 1048576
  · rw [if_pos hz] at CZ
    have CT : Hid (∀ u : World, Below w.heap.size w u → Calls Try.prog 35 #[.slice T l.length c] u fun e w' => ∃ g, e = .returned (.slice (some ⟨g, 0, none⟩) l.length l.length) ∧ ownR w' u.heap.size 61 3 (.slice (some ⟨g, 0, none⟩) l.length l.length) l.length (lbF l) ∧ Below u.heap.size u w') := fun u hu => l_toLabelS T c l u (h.below hu) hz
    have CS : Hid (∀ (g : Nat) (u : World), IntsAt u (some ⟨g, 0, none⟩) (lbF l) → Calls Try.prog 42 #[.slice (some ⟨g, 0, none⟩) l.length l.length, .agg (lbL a)] u fun e w' => ∃ v, e = .returned (.tuple #[v, .bool (puB l a)]) ∧ ownR w' u.heap.size 61 3 v (puR l a).length (lbF (puR l a)) ∧ Below u.heap.size u w') := fun g u hu => s_Pushed _ _ _ l a u hu hz
    have CI : Hid (∀ (g : Nat) (u : World), IntsAt u (some ⟨g, 0, none⟩) (lbF l) → Calls Try.prog 44 #[.slice (some ⟨g, 0, none⟩) l.length l.length, .agg (lbL a)] u fun e w' => ∃ v, e = .returned (.tuple #[v, .bool (puB l a)]) ∧ ownR w' u.heap.size 61 3 v (puR l a).length (lbF (puR l a)) ∧ Below u.heap.size u w') := fun g u hu => i_Pushed _ _ _ l a u hu hz
    have CE : Hid (∀ (m : List LbV) (S1 S2 : Option Addr) (c1 c2 : Nat) (u : World), m.length ≤ 1099511627776 → IntsAt u S1 (lbF m) → IntsAt u S2 (lbF m) → Calls Try.prog 37 #[.slice S1 m.length c1, .slice S2 m.length c2] u fun e w' => e = .returned (.bool true) ∧ Below u.heap.size u w') := fun m S1 S2 c1 c2 u hm h1 h2 => l_eqLabelS S1 S2 c1 c2 m u h1 h2 hm
    have CL : Hid (∀ u : World, Calls Try.prog 43 #[.agg (lbL a)] u fun e w' => e = .returned (.agg (lbL a)) ∧ Below u.heap.size u w') := fun u => l_toLabel a u
    have hrl := puR_len l a
    have hA : Bxl (w.alloc (.cells (lbL a) 58)) w.heap.size a := ⟨by simp, by simp [lbL], by simp [lbL], by simp [lbL]⟩
    have hB : Below w.heap.size w (w.alloc (.cells (lbL a) 58)) := (Below.refl _ w).alloc (Nat.le_refl _) _
    generalize puR l a = pr at *
    generalize puB l a = pb at *
    obtain ⟨x, y, z⟩ := a
    simp only [lbL] at *
    have hpb : (pb != pb) = false := by simp
    go_enter Try.func11, Try.ntmps11
    go_wp2_with fail
    go_at_call 33
    refine (CZ.out _).mono ?_
    rintro e wz ⟨rfl, hz1⟩
    rw [hz1]
    clear hz1 wz
    go_upto_region 5 with fail
    go_cut [6, 7] from 21 to 28 (fun v q wx => ∃ TW cW, v = .slice TW pr.length cW ∧ q = .bool pb ∧ ownR wx w.heap.size 61 3 (.slice TW pr.length cW) pr.length (lbF pr) ∧ Below w.heap.size w wx ∧ Bxl wx w.heap.size ⟨x, y, z⟩)
    case first =>
      have hAd := hA.drew
      have hBd := hB.drew
      have x0 := hAd.2.1
      have x1 := hAd.2.2.1
      have x2 := hAd.2.2.2
      go_region_with (first
        | (go_at_call 35; refine (CT.out _ (by first | exact hBd | exact hB2)).mono ?_; rintro e w1 ⟨g1, rfl, ho1, hb⟩; have hB1 := (by first | exact hB2.trans (hb.mono hB2.size) | exact hBd.trans (hb.mono hBd.size) : Below w.heap.size w w1); have hA1 := (by first | exact hA2.below hb | exact hAd.below hb : Bxl w1 w.heap.size ⟨x, y, z⟩); clear hb; have y0 := hA1.2.1; have y1 := hA1.2.2.1; have y2 := hA1.2.2.2)
        | (go_at_call 43; refine (CL.out _).mono ?_; rintro e w2 ⟨rfl, hb⟩; have hB2 := (by first | exact hB1.trans (hb.mono hB1.size) | exact hBd.trans (hb.mono hBd.size) : Below w.heap.size w w2); have hA2 := (by first | exact hA1.below hb | exact hAd.below hb : Bxl w2 w.heap.size ⟨x, y, z⟩); (try replace ho1 := ho1.far hb); clear hb)
        | (go_at_call 42; refine (CS.out _ _ ho1.reads.2).mono ?_; rintro e w5 ⟨vW, rfl, hW, hb⟩))
      all_goals
        go_wp2_with fail
        go_meet
        have hBz := (by first | exact hB2.trans (hb.mono hB2.size) | exact hB1.trans (hb.mono hB1.size) : Below w.heap.size w w5)
        obtain ⟨TW, cW, rfl⟩ := hW.form
        exact ⟨TW, cW, rfl, rfl, hW.mono (by first | exact hB2.size | exact hB1.size), hBz, by first | exact hA2.below hb | exact hA1.below hb⟩
    case rest =>
    obtain ⟨TW, cW, rfl, rfl, hW, hB, hA⟩ := hcut
    have hz0 := hA.1
    have lW := World.ownsRow.lt hW
    go_wp2_with fail
    go_at_call 35
    refine (CT.out _ hB).mono ?_
    rintro e w3 ⟨g2, rfl, hX, hb⟩
    have lX := World.ownsRow.lt hX
    have b23 := hb.size
    have bX := hB.size
    replace hW := hW.far hb
    replace hA := hA.below hb
    replace hB := hB.trans (hb.mono hB.size)
    clear hb
    have x0 := hA.2.1
    have x1 := hA.2.2.1
    have x2 := hA.2.2.2
    go_wp2_with fail
    go_at_call 43
    refine (CL.out _).mono ?_
    rintro e w31 ⟨rfl, hb⟩
    have b31 := hb.size
    replace hW := hW.far hb
    replace hX := hX.far hb
    replace hA := hA.below hb
    replace hB := hB.trans (hb.mono hB.size)
    clear hb
    clear x0 x1 x2
    go_wp2_with fail
    go_at_call 44
    refine (CI.out _ _ hX.reads.2).mono ?_
    rintro e w4 ⟨vG, rfl, hG, hb⟩
    obtain ⟨TG, cG, rfl⟩ := hG.form
    have lG := World.ownsRow.lt hG
    have bG := hB.size
    replace hW := hW.far hb
    replace hX := hX.far hb
    replace hA := hA.below hb
    replace hB := hB.trans (hb.mono hB.size)
    clear hb
    go_wp2_with fail
    go_at_call 37
    refine (CE.out pr _ _ _ _ _ (by omega) hG.reads.2 hW.reads.2).mono ?_
    rintro e w5 ⟨rfl, hb⟩
    replace hW := hW.far hb
    replace hX := hX.far hb
    replace hG := hG.far hb
    replace hA := hA.below hb
    replace hB := hB.trans (hb.mono hB.size)
    clear hb
    go_wp2_with fail
    go_at_call 35
    refine (CT.out _ hB).mono ?_
    rintro e w6 ⟨g3, rfl, hY, hb⟩
    replace hW := hW.far hb
    replace hX := hX.far hb
    replace hG := hG.far hb
    replace hA := hA.below hb
    replace hB := hB.trans (hb.mono hB.size)
    clear hb
    go_wp2_with fail
    go_at_call 37
    refine (CE.out l _ _ _ _ _ (by omega) hX.reads.2 hY.reads.2).mono ?_
    rintro e w7 ⟨rfl, hb⟩
    clear hY
    replace hW := hW.far hb
    replace hX := hX.far hb
    replace hG := hG.far hb
    replace hA := hA.below hb
    replace hB := hB.trans (hb.mono hB.size)
    clear hb
    have CM1 : Hid (∀ u : World, u = w7 → Calls Try.prog 40 #[.slice (some ⟨g2, 0, none⟩) l.length l.length, .int .i64 1] u fun e w' => e = .returned (.int .i64 (1 + (l.length : Int) * 3)) ∧ ownR w' wc.heap.size 61 3 (.slice (some ⟨g2, 0, none⟩) l.length l.length) l.length (marks (l.length * 3)) ∧ u.grownBy w' (Value.slice (some ⟨g2, 0, none⟩) l.length l.length).ownBlock) := by
      rintro u rfl; exact l_markLabelS _ _ _ _ _ u hX (by omega)
    go_wp2_with fail
    go_at_call 40
    refine (CM1.out _ rfl).mono ?_
    rintro e w8 ⟨rfl, _, hg⟩
    replace hW := own_kept hW hg (fun b hb => by have := (lW b hb).2; have := bX; intro hx; have := (lX b hx).1; omega)
    replace hG := own_kept hG hg (fun b hb => by have := (lG b hb).1; intro hx; have := (lX b hx).2; omega)
    replace hA : Bxl _ w.heap.size ⟨x, y, z⟩ := hA.grown hg (fun b hb => by have := (lX b hb).1; have := hz0; omega)
    replace hB := hB.grown hg hB.size (fun b hb => by have := (lX b hb).1; omega)
    clear CM1 hX hg
    have hk1 : ¬ (1 + (l.length : Int) * 3 < 0) := by omega
    have hk2 : decide (1 + (l.length : Int) * 3 < 0) = false := by simp; omega
    go_wp2_with fail
    go_at_call 37
    refine (CE.out pr _ _ _ _ _ (by omega) hG.reads.2 hW.reads.2).mono ?_
    rintro e w9 ⟨rfl, hb⟩
    replace hW := hW.far hb
    replace hG := hG.far hb
    replace hA := hA.below hb
    replace hB := hB.trans (hb.mono hB.size)
    clear hb
    have CM2 : Hid (∀ u : World, u = w9 → Calls Try.prog 40 #[.slice TG pr.length cG, .int .i64 1] u fun e w' => e = .returned (.int .i64 (1 + (pr.length : Int) * 3)) ∧ ownR w' w31.heap.size 61 3 (.slice TG pr.length cG) pr.length (marks (pr.length * 3)) ∧ u.grownBy w' (Value.slice TG pr.length cG).ownBlock) := by
      rintro u rfl; exact l_markLabelS _ _ _ _ _ u hG (by omega)
    go_wp2_with fail
    go_at_call 40
    refine (CM2.out _ rfl).mono ?_
    rintro e w10 ⟨rfl, hM, hg⟩
    replace hW := own_kept hW hg (fun b hb => by have := (lW b hb).2; intro hx; have := (lG b hx).1; omega)
    replace hA : Bxl _ w.heap.size ⟨x, y, z⟩ := hA.grown hg (fun b hb => by have := (lG b hb).1; have := hz0; omega)
    replace hB := hB.grown hg hB.size (fun b hb => by have := (lG b hb).1; omega)
    clear CM2 hG hg
    have CH : Hid (∀ u : World, ownR u w31.heap.size 61 3 (.slice TG pr.length cG) pr.length (marks (pr.length * 3)) → Calls Try.prog 41 #[.slice TG pr.length cG, .int .i64 1] u fun e w' => e = .returned (.int .i64 (1 + (pr.length : Int) * 3)) ∧ Below u.heap.size u w') := fun u hu => l_heldLabelS _ _ _ _ u hu (by omega)
    have hq1 : ¬ (1 + (pr.length : Int) * 3 < 0) := by omega
    have hq2 : ((1 + (pr.length : Int) * 3) != (1 + (pr.length : Int) * 3)) = false := by simp
    go_wp2_with fail
    go_at_call 41
    refine (CH.out _ hM).mono ?_
    rintro e w11 ⟨rfl, hb⟩
    replace hW := hW.far hb
    replace hM := hM.far hb
    replace hA := hA.below hb
    replace hB := hB.trans (hb.mono hB.size)
    clear hb
    go_upto_region 24 with fail
    go_cut [14, 15] from 79 to 86 (fun v q wx => ∃ TK cK, v = .slice TK pr.length cK ∧ q = .bool pb ∧ ownR wx w11.heap.size 61 3 (.slice TK pr.length cK) pr.length (lbF pr) ∧ Below w.heap.size w wx ∧ Below w11.heap.size w11 wx)
    case first =>
      have hAd := hA.drew
      have hBd := hB.drew
      have x0 := hAd.2.1
      have x1 := hAd.2.2.1
      have x2 := hAd.2.2.2
      have hD := (Below.refl w11.heap.size w11).drew
      go_region_with (first
        | (go_at_call 35; refine (CT.out _ (by first | exact hBd | exact hB2)).mono ?_; rintro e w1 ⟨g1, rfl, ho1, hb⟩; have hB1 := (by first | exact hB2.trans (hb.mono hB2.size) | exact hBd.trans (hb.mono hBd.size) : Below w.heap.size w w1); have hA1 := (by first | exact hA2.below hb | exact hAd.below hb : Bxl w1 w.heap.size ⟨x, y, z⟩); have hD1 := (by first | exact hD2.trans (hb.mono hD2.size) | exact hD.trans (hb.mono hD.size) : Below w11.heap.size w11 w1); clear hb; have y0 := hA1.2.1; have y1 := hA1.2.2.1; have y2 := hA1.2.2.2)
        | (go_at_call 43; refine (CL.out _).mono ?_; rintro e w2 ⟨rfl, hb⟩; have hB2 := (by first | exact hB1.trans (hb.mono hB1.size) | exact hBd.trans (hb.mono hBd.size) : Below w.heap.size w w2); have hA2 := (by first | exact hA1.below hb | exact hAd.below hb : Bxl w2 w.heap.size ⟨x, y, z⟩); have hD2 := (by first | exact hD1.trans (hb.mono hD1.size) | exact hD.trans (hb.mono hD.size) : Below w11.heap.size w11 w2); (try replace ho1 := ho1.far hb); clear hb)
        | (go_at_call 44; refine (CI.out _ _ ho1.reads.2).mono ?_; rintro e w5 ⟨vW, rfl, hW, hb⟩))
      all_goals
        go_wp2_with fail
        go_meet
        have hBz := (by first | exact hB2.trans (hb.mono hB2.size) | exact hB1.trans (hb.mono hB1.size) : Below w.heap.size w w5)
        have hDz := (by first | exact hD2.trans (hb.mono hD2.size) | exact hD1.trans (hb.mono hD1.size) : Below w11.heap.size w11 w5)
        obtain ⟨TK, cK, rfl⟩ := hW.form
        exact ⟨TK, cK, rfl, rfl, hW.mono (by first | exact hD2.size | exact hD1.size), hBz, hDz⟩
    case rest =>
    obtain ⟨TK, cK, rfl, rfl, hK, hB', hb⟩ := hcut
    replace hW := hW.far hb
    replace hM := hM.far hb
    replace hB := hB'
    clear hb hB'
    go_wp2_with fail
    go_at_call 37
    refine (CE.out pr _ _ _ _ _ (by omega) hK.reads.2 hW.reads.2).mono ?_
    rintro e w14 ⟨rfl, hb⟩
    replace hM := hM.far hb
    replace hB := hB.trans (hb.mono hB.size)
    clear hb
    go_wp2_with fail
    go_at_call 41
    refine (CH.out _ hM).mono ?_
    rintro e w15 ⟨rfl, hb⟩
    replace hB := hB.trans (hb.mono hB.size)
    clear hb
    go_wp2
    go_ret
    exact ⟨rfl, hB⟩
  · rw [if_neg hz] at CZ
    go_enter Try.func11, Try.ntmps11
    go_wp2_with (go_at_call 33; refine (CZ.out _).mono ?_; rintro e wz ⟨rfl, hz1⟩; rw [hz1]; clear hz1 wz)
    go_ret
    exact ⟨rfl, (Below.refl _ w).alloc (Nat.le_refl _) _⟩
end Go.Proofs.Ytmaonnhfbonoeaa
