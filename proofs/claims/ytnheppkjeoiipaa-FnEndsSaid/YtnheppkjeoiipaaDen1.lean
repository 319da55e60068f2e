/-
  Draws of ends.
-/
import Derived.Test.YtnheppkjeoiipaaDgn6
import Derived.Test.YtnheppkjeoiipaaMir2
import Derived.Deep.Cut
import Derived.Deep.CutRange
namespace Go.Proofs.Ytnheppkjeoiipaa
open Go.RowKit Go.PlainAid
theorem Bx.onlyE {b g : Nat} {vs : List Value} {u u1 : World} (h : Bx u g vs) (hO : Only b u u1) (hg : g ≠ b) : Bx u1 g vs := ⟨Nat.lt_of_lt_of_le h.1 hO.size, fun i v hi => (hO.cell h.1 hg).trans (h.2 i v hi)⟩
theorem Fx.onlyE {b g : Nat} {u u1 : World} (h : Fx u g) (hO : Only b u u1) (hg : g ≠ b) : Fx u1 g :=
  ⟨Nat.lt_of_lt_of_le h.1 hO.size, fun j => (World.frozen?_of_block (w := u) (a := ⟨g, j, none⟩) (hO.block g h.1 (by simp; exact hg))).trans (h.2 j)⟩
theorem opTot_app (l m : List OpV) : opTot (l ++ m) = opTot l + opTot m := totV_app _ _ _
set_option maxRecDepth 100000 in
set_option maxHeartbeats 3200000 in
theorem r_end (b : Nat) (C : Option Addr) (len cap : Nat) (id : Int) (w : World) (h : RdI w b C len cap) :
    Calls Try.prog 73 #[.pointer (some ⟨b, 0, none⟩), .int .i64 id] w fun x w' => ∃ (e : EdV) (T : Option Addr) (c : Nat), x = .returned (.agg (edL e T c)) ∧ ownV w' w.heap.size 33 3 (.slice T e.opts.length c) e.opts.length (opF e.opts) ∧ e.opts.length ≤ 3 ∧ opTot e.opts ≤ 1000 ∧ RdI w' b C len cap ∧ Only b w w' := by
  have hbw := h.lt
  have hZ : Bx (w.alloc (.cells edZ 39)) w.heap.size edZ.toList := Bx.new w _ _
  have hFZ : Fx (w.alloc (.cells edZ 39)) w.heap.size := Fx.new w _ _
  have hR := h.alloc (.cells edZ 39)
  have hO : Only b w (w.alloc (.cells edZ 39)) := (Only.refl b w).alloc _
  have hs0 : w.heap.size < (w.alloc (.cells edZ 39)).heap.size := by simp
  clear h
  go_enter Try.func73, Try.ntmps73
  go_wp2_with fail
  generalize w.alloc _ = w0 at *
  refine (r_below b C len cap _ _ (by omega) hR).mono ?_
  rintro e u1 ⟨y1, rfl, hy1a, hy1b, hR1, hO1⟩
  replace hZ := hZ.onlyE hO1 (by omega); replace hFZ := hFZ.onlyE hO1 (by omega); replace hO := hO.trans hO1; replace hR := hR1; replace hs0 := Nat.lt_of_lt_of_le hs0 hO1.size; clear hO1 hR1
  have e1 : IntKind.i64.wrap (1 + y1) = 1 + y1 := wraps_i64 _ (by omega) (by omega)
  go_wp2_with fail
  refine (r_below b C len cap _ _ (by omega) hR).mono ?_
  rintro e u2 ⟨y2, rfl, hy2a, hy2b, hR1, hO1⟩
  replace hZ := hZ.onlyE hO1 (by omega); replace hFZ := hFZ.onlyE hO1 (by omega); replace hO := hO.trans hO1; replace hR := hR1; replace hs0 := Nat.lt_of_lt_of_le hs0 hO1.size; clear hO1 hR1
  have e2 : IntKind.i64.wrap (1 + y2) = 1 + y2 := wraps_i64 _ (by omega) (by omega)
  go_wp2_with fail
  refine (r_below b C len cap _ _ (by omega) hR).mono ?_
  rintro e u3 ⟨y3, rfl, hy3a, hy3b, hR1, hO1⟩
  replace hZ := hZ.onlyE hO1 (by omega); replace hFZ := hFZ.onlyE hO1 (by omega); replace hO := hO.trans hO1; replace hR := hR1; replace hs0 := Nat.lt_of_lt_of_le hs0 hO1.size; clear hO1 hR1
  have e3 : IntKind.i64.wrap (3 + y3) = 3 + y3 := wraps_i64 _ (by omega) (by omega)
  go_wp2_with fail
  refine (r_below b C len cap _ _ (by omega) hR).mono ?_
  rintro e u4 ⟨y4, rfl, hy4a, hy4b, hR1, hO1⟩
  replace hZ := hZ.onlyE hO1 (by omega); replace hFZ := hFZ.onlyE hO1 (by omega); replace hO := hO.trans hO1; replace hR := hR1; replace hs0 := Nat.lt_of_lt_of_le hs0 hO1.size; clear hO1 hR1
  go_wp2_with fail
  refine (r_once b C len cap _ _ (by omega) (by omega) hR).mono ?_
  rintro e v1 ⟨df, rfl, hR1, hO1⟩
  replace hZ := hZ.onlyE hO1 (by omega); replace hFZ := hFZ.onlyE hO1 (by omega); replace hO := hO.trans hO1; replace hR := hR1; replace hs0 := Nat.lt_of_lt_of_le hs0 hO1.size; clear hO1 hR1
  go_wp2_with fail
  refine (r_once b C len cap _ _ (by omega) (by omega) hR).mono ?_
  rintro e v2 ⟨sm, rfl, hR1, hO1⟩
  replace hZ := hZ.onlyE hO1 (by omega); replace hFZ := hFZ.onlyE hO1 (by omega); replace hO := hO.trans hO1; replace hR := hR1; replace hs0 := Nat.lt_of_lt_of_le hs0 hO1.size; clear hO1 hR1
  have hq := (Below.refl v2.heap.size v2).alloc (Nat.le_refl _) (.cells #[.int .i64 id, .int .i64 (1 + y1), .int .i64 (1 + y2), .int .i64 (3 + y3), .int .i64 y4, .bool df, .bool sm, .slice none 0 0] 39)
  have hX := Bx.new v2 #[.int .i64 id, .int .i64 (1 + y1), .int .i64 (1 + y2), .int .i64 (3 + y3), .int .i64 y4, .bool df, .bool sm, .slice none 0 0] 39
  have hFX := Fx.new v2 #[.int .i64 id, .int .i64 (1 + y1), .int .i64 (1 + y2), .int .i64 (3 + y3), .int .i64 y4, .bool df, .bool sm, .slice none 0 0] 39
  replace hZ := hZ.below hq
  replace hFZ := hFZ.below' hq
  replace hR := hR.alloc (.cells #[.int .i64 id, .int .i64 (1 + y1), .int .i64 (1 + y2), .int .i64 (3 + y3), .int .i64 y4, .bool df, .bool sm, .slice none 0 0] 39)
  replace hO := hO.alloc (.cells #[.int .i64 id, .int .i64 (1 + y1), .int .i64 (1 + y2), .int .i64 (3 + y3), .int .i64 y4, .bool df, .bool sm, .slice none 0 0] 39)
  have hsX := hX.1
  clear hq
  by_cases hk : y1 = 1
  · subst hk
    have e1b : IntKind.i64.wrap (1 + 1) = 2 := e1
    simp only [Int.reduceAdd] at hX hFX hZ hFZ hR hO hsX
    go_wp2_with fail
    generalize hU : v2.alloc _ = U at *
    clear hU
    refine (r_tlvs _ C len cap _ hR).mono ?_
    rintro e u5 ⟨v, l, rfl, hv, hl, ht, hR5, hO5⟩
    obtain ⟨T, c, rfl⟩ := hv.form
    replace hX := hX.onlyE hO5 (by omega)
    replace hFX := hFX.onlyE hO5 (by omega)
    replace hZ := hZ.onlyE hO5 (by omega)
    replace hFZ := hFZ.onlyE hO5 (by omega)
    replace hO := hO.trans hO5
    replace hv : ownV u5 (v2.heap.size + 1) 33 3 (.slice T l.length c) l.length (opF l) := hv.mono (by omega)
    clear hR hO5
    go_wp2_with fail
    refine (s_Opts T c l _ hv.reads.2 (by omega)).mono ?_
    rintro e u6 ⟨rfl, hb⟩
    replace hX := hX.below hb
    replace hFX := hFX.below' hb
    replace hZ := hZ.below hb
    replace hFZ := hFZ.below' hb
    replace hv := hv.far hb
    replace hR5 := hR5.far hb
    replace hO := hO.far hb
    clear hb
    have x0 := hX.2 0 _ rfl; have x1 := hX.2 1 _ rfl; have x2 := hX.2 2 _ rfl; have x3 := hX.2 3 _ rfl; have x4 := hX.2 4 _ rfl; have x5 := hX.2 5 _ rfl; have x6 := hX.2 6 _ rfl; have x7 := hX.2 7 _ rfl
    have z0 := hZ.2 0 _ rfl; have z1 := hZ.2 1 _ rfl; have z2 := hZ.2 2 _ rfl; have z3 := hZ.2 3 _ rfl; have z4 := hZ.2 4 _ rfl; have z5 := hZ.2 5 _ rfl; have z6 := hZ.2 6 _ rfl; have z7 := hZ.2 7 _ rfl
    have f0 := hFZ.2
    have g0 := hFX.2
    have hn1 : ¬ (w.heap.size = v2.heap.size) := by omega
    have hn2 : ¬ (v2.heap.size = w.heap.size) := by omega
    have hK : ∀ W, Below w.heap.size u6 W → RdI W b C len cap ∧ Only b w W := fun W h => ⟨hR5.kept (h.mono (by omega)), hO.beyond (Nat.le_refl _) h⟩
    have hB0 := Below.refl w.heap.size u6
    cases hq : opsB l
    · go_wp2
      refine bodyPost_ret (v := .agg #[.int .i64 id, .int .i64 2, .int .i64 (1 + y2), .int .i64 (3 + y3), .int .i64 y4, .bool df, .bool sm, .slice none 0 0]) ?_ rfl ⟨⟨id, 2, 1 + y2, 3 + y3, y4, df, sm, []⟩, none, 0, rfl, ownV.nil _ _ _ _, by simp, by simp [opTot, totV], ?_, ?_⟩
      · simp [results, Try.results73, go_sem, z0, z1, z2, z3, z4, z5, z6, z7]
      · refine (hK _ ?_).1
        go_grown
      · refine (hK _ ?_).2
        go_grown
    · go_wp2
      refine bodyPost_ret (v := .agg #[.int .i64 id, .int .i64 2, .int .i64 (1 + y2), .int .i64 (3 + y3), .int .i64 y4, .bool df, .bool sm, .slice T l.length c]) ?_ rfl ⟨⟨id, 2, 1 + y2, 3 + y3, y4, df, sm, l⟩, T, c, rfl, ?_, hl, ht, ?_, ?_⟩
      · simp [results, Try.results73, go_sem, z0, z1, z2, z3, z4, z5, z6, z7]
      · refine ownV.mono (B := v2.heap.size + 1) ?_ (by omega)
        iterate 9 (refine ownV.lowset ?_ (by omega) _)
        exact hv
      · refine (hK _ ?_).1
        go_grown
      · refine (hK _ ?_).2
        go_grown
  · have hkb : (1 + y1 == 2) = false := by simp; omega
    go_upto_region 6 with fail
    generalize hU : v2.alloc _ = U at *
    clear hU
    have x0 := hX.2 0 _ rfl; have x1 := hX.2 1 _ rfl; have x2 := hX.2 2 _ rfl; have x3 := hX.2 3 _ rfl; have x4 := hX.2 4 _ rfl; have x5 := hX.2 5 _ rfl; have x6 := hX.2 6 _ rfl; have x7 := hX.2 7 _ rfl
    have z0 := hZ.2 0 _ rfl; have z1 := hZ.2 1 _ rfl; have z2 := hZ.2 2 _ rfl; have z3 := hZ.2 3 _ rfl; have z4 := hZ.2 4 _ rfl; have z5 := hZ.2 5 _ rfl; have z6 := hZ.2 6 _ rfl; have z7 := hZ.2 7 _ rfl
    have f0 := hFZ.2
    have hK : ∀ W, Below w.heap.size U W → RdI W b C len cap ∧ Only b w W := fun W h => ⟨hR.kept (h.mono (by omega)), hO.beyond (Nat.le_refl _) h⟩
    have hB0 := Below.refl w.heap.size U
    go_wp2
    refine bodyPost_ret (v := .agg #[.int .i64 id, .int .i64 (1 + y1), .int .i64 (1 + y2), .int .i64 (3 + y3), .int .i64 y4, .bool df, .bool sm, .slice none 0 0]) ?_ rfl ⟨⟨id, 1 + y1, 1 + y2, 3 + y3, y4, df, sm, []⟩, none, 0, rfl, ownV.nil _ _ _ _, by simp, by simp [opTot, totV], ?_, ?_⟩
    · simp [results, Try.results73, go_sem, z0, z1, z2, z3, z4, z5, z6, z7]
    · refine (hK _ ?_).1
      go_grown
    · refine (hK _ ?_).2
      go_grown
end Go.Proofs.Ytnheppkjeoiipaa
