/-
  Draws of GREs.
-/
import Derived.Test.YtgbpecjgpiffmaaDtun1
import Derived.Test.YtgbpecjgpiffmaaGre5
namespace Go.Proofs.Ytgbpecjgpiffmaa
open Go.RowKit Go.PlainAid
theorem only_set {b : Nat} {w U : World} {g j : Nat} {v : Value} (h : Only b w U) (hg : w.heap.size ≤ g) : Only b w (U.setCell ⟨g, j, none⟩ v) :=
  ⟨h.os, h.tape, h.output, by simpa using h.size, fun i hi hne => (heap_setCell_other U _ i _ (by simp; omega)).trans (h.block i hi hne)⟩
theorem rdi_set {b : Nat} {C : Option Addr} {len cap : Nat} {U : World} {g j : Nat} {v : Value} (h : RdI U b C len cap) (hg : b < g) : RdI (U.setCell ⟨g, j, none⟩ v) b C len cap :=
  h.kept ⟨rfl, rfl, rfl, by simp, fun k hk => heap_setCell_other U _ k _ (by simp; omega)⟩
set_option maxRecDepth 100000 in
set_option maxHeartbeats 3200000 in
theorem r_gre (b : Nat) (C : Option Addr) (len cap : Nat) (w : World) (h : RdI w b C len cap) :
    Calls Try.prog 48 #[.pointer (some ⟨b, 0, none⟩)] w fun e w' => ∃ g : GrV, e = .returned (.agg (grL g)) ∧ g.key ≤ 9223372036854775807 ∧ g.seq ≤ 9223372036854775807 ∧ g.data.size ≤ 65100 ∧ RdI w' b C len cap ∧ Only b w w' := by
  have hbw := h.lt
  have hZ := Bx.new w #[.bool false, .bool false, .int .i64 0, .bool false, .int .i64 0, .string ⟨#[]⟩] 23
  have hP := Fx.new w #[.bool false, .bool false, .int .i64 0, .bool false, .int .i64 0, .string ⟨#[]⟩] 23
  have hR := h.alloc (.cells #[.bool false, .bool false, .int .i64 0, .bool false, .int .i64 0, .string ⟨#[]⟩] 23)
  have hQ : Only b w (w.alloc (.cells #[.bool false, .bool false, .int .i64 0, .bool false, .int .i64 0, .string ⟨#[]⟩] 23)) := (Only.refl b w).alloc _
  go_enter Try.func48, Try.ntmps48
  go_wp2_with fail
  generalize hW : w.alloc _ = w0 at *
  clear hW
  generalize hBB : w.heap.size = B at *
  refine (r_once _ C len cap _ _ (by omega) (by omega) hR).mono ?_
  rintro e w1 ⟨ga, rfl, hR', hO⟩
  replace hZ := hZ.kept hO (by omega)
  replace hP := hP.kept hO (by omega)
  replace hQ := hQ.trans hO
  clear hO
  replace hR := hR'
  clear hR'
  go_wp2_with fail
  refine (r_once _ C len cap _ _ (by omega) (by omega) hR).mono ?_
  rintro e w2 ⟨gb, rfl, hR', hO⟩
  replace hZ := hZ.kept hO (by omega)
  replace hP := hP.kept hO (by omega)
  replace hQ := hQ.trans hO
  clear hO
  replace hR := hR'
  clear hR'
  go_wp2_with fail
  refine (r_once _ C len cap _ _ (by omega) (by omega) hR).mono ?_
  rintro e w3 ⟨gc, rfl, hR', hO⟩
  replace hZ := hZ.kept hO (by omega)
  replace hP := hP.kept hO (by omega)
  replace hQ := hQ.trans hO
  clear hO
  replace hR := hR'
  clear hR'
  go_wp2_with fail
  refine (r_data _ C len cap _ hR).mono ?_
  rintro e w4 ⟨gd, rfl, hdz, hR', hO⟩
  replace hZ := hZ.kept hO (by omega)
  replace hP := hP.kept hO (by omega)
  replace hQ := hQ.trans hO
  clear hO
  replace hR := hR'
  clear hR'
  have hG := Bx.new w4 #[.bool ga, .bool gb, .int .i64 0, .bool gc, .int .i64 0, .string gd] 23
  have hF := Fx.new w4 #[.bool ga, .bool gb, .int .i64 0, .bool gc, .int .i64 0, .string gd] 23
  have hgl := hQ.size
  have hgB : B < w4.heap.size := hZ.1
  replace hZ := hZ.below ((Below.refl _ w4).alloc (Nat.le_refl _) (.cells #[.bool ga, .bool gb, .int .i64 0, .bool gc, .int .i64 0, .string gd] 23))
  replace hP := hP.below ((Below.refl _ w4).alloc (Nat.le_refl _) (.cells #[.bool ga, .bool gb, .int .i64 0, .bool gc, .int .i64 0, .string gd] 23))
  replace hR := hR.alloc (.cells #[.bool ga, .bool gb, .int .i64 0, .bool gc, .int .i64 0, .string gd] 23)
  replace hQ := hQ.alloc (.cells #[.bool ga, .bool gb, .int .i64 0, .bool gc, .int .i64 0, .string gd] 23)
  cases gb
  · go_wp2_with fail
    generalize hW : w4.alloc (.cells #[.bool ga, .bool false, .int .i64 0, .bool gc, .int .i64 0, .string gd] 23) = w5 at *
    clear hW
    generalize hgg : w4.heap.size = g at *
    clear hgg
    have a0 := hG.2 0 _ rfl
    have a1 := hG.2 1 _ rfl
    have a2 := hG.2 2 _ rfl
    have a3 := hG.2 3 _ rfl
    have a4 := hG.2 4 _ rfl
    have a5 := hG.2 5 _ rfl
    refine (r_once _ C len cap _ _ (by omega) (by omega) hR).mono ?_
    rintro e w6 ⟨t, rfl, hR', hO⟩
    replace hZ := hZ.kept hO (by omega)
    replace hP := hP.kept hO (by omega)
    replace hG := hG.kept hO (by omega)
    replace hF := hF.kept hO (by omega)
    replace hQ := hQ.trans hO
    replace hR := hR'
    clear hO hR'
    clear a0 a1 a2 a3 a4 a5
    have a0 := hG.2 0 _ rfl
    have a1 := hG.2 1 _ rfl
    have a2 := hG.2 2 _ rfl
    have a3 := hG.2 3 _ rfl
    have a4 := hG.2 4 _ rfl
    have a5 := hG.2 5 _ rfl
    cases t
    · cases gc
      · skip
        have z0 := hZ.2 0 _ rfl
        have z1 := hZ.2 1 _ rfl
        have z2 := hZ.2 2 _ rfl
        have z3 := hZ.2 3 _ rfl
        have z4 := hZ.2 4 _ rfl
        have z5 := hZ.2 5 _ rfl
        have p0 := hP.2 0
        have p1 := hP.2 1
        have p2 := hP.2 2
        have p3 := hP.2 3
        have p4 := hP.2 4
        have p5 := hP.2 5
        go_wp2
        refine bodyPost_ret (v := .agg #[.bool ga, .bool false, .int .i64 0, .bool false, .int .i64 0, .string gd]) ?_ rfl ⟨⟨ga, false, 0, false, 0, gd⟩, rfl, by first | (dsimp only; omega) | omega, by first | (dsimp only; omega) | omega, hdz, ?_, ?_⟩
        · simp [results, Try.results48, go_sem, z0, z1, z2, z3, z4, z5]
        · repeat (refine rdi_set ?_ (by omega))
          exact hR
        · repeat (refine only_set ?_ (by omega))
          exact hQ
      · skip
        go_wp2_with fail
        refine (r_word _ C len cap _ hR).mono ?_
        rintro e w7 ⟨y, rfl, hy0, hy1, hR', hO⟩
        replace hZ := hZ.kept hO (by omega)
        replace hP := hP.kept hO (by omega)
        replace hG := hG.kept hO (by omega)
        replace hF := hF.kept hO (by omega)
        replace hQ := hQ.trans hO
        replace hR := hR'
        clear hO hR'
        clear a0 a1 a2 a3 a4 a5
        have a0 := hG.2 0 _ rfl
        have a1 := hG.2 1 _ rfl
        have a2 := hG.2 2 _ rfl
        have a3 := hG.2 3 _ rfl
        have a4 := hG.2 4 _ rfl
        have a5 := hG.2 5 _ rfl
        have f4 := hF.2 4
        have z0 := hZ.2 0 _ rfl
        have z1 := hZ.2 1 _ rfl
        have z2 := hZ.2 2 _ rfl
        have z3 := hZ.2 3 _ rfl
        have z4 := hZ.2 4 _ rfl
        have z5 := hZ.2 5 _ rfl
        have p0 := hP.2 0
        have p1 := hP.2 1
        have p2 := hP.2 2
        have p3 := hP.2 3
        have p4 := hP.2 4
        have p5 := hP.2 5
        have ew : IntKind.i64.wrap (y / 4294967296) = y / 4294967296 := wraps_i64 _ (by omega) (by omega)
        go_wp2
        refine bodyPost_ret (v := .agg #[.bool ga, .bool false, .int .i64 0, .bool true, .int .i64 (y / 4294967296), .string gd]) ?_ rfl ⟨⟨ga, false, 0, true, (y / 4294967296), gd⟩, rfl, by first | (dsimp only; omega) | omega, by first | (dsimp only; omega) | omega, hdz, ?_, ?_⟩
        · simp [results, Try.results48, go_sem, z0, z1, z2, z3, z4, z5]
        · repeat (refine rdi_set ?_ (by omega))
          exact hR
        · repeat (refine only_set ?_ (by omega))
          exact hQ
    · go_wp2_with fail
      refine (r_off _ C len cap _ _ _ (by omega) (by omega) (by omega) (by omega) hR).mono ?_
      rintro e w7 ⟨x, rfl, hx0, hx1, hR', hO⟩
      replace hZ := hZ.kept hO (by omega)
      replace hP := hP.kept hO (by omega)
      replace hG := hG.kept hO (by omega)
      replace hF := hF.kept hO (by omega)
      replace hQ := hQ.trans hO
      replace hR := hR'
      clear hO hR'
      clear a0 a1 a2 a3 a4 a5
      have a0 := hG.2 0 _ rfl
      have a1 := hG.2 1 _ rfl
      have a2 := hG.2 2 _ rfl
      have a3 := hG.2 3 _ rfl
      have a4 := hG.2 4 _ rfl
      have a5 := hG.2 5 _ rfl
      have f2 := hF.2 2
      cases gc
      · skip
        have z0 := hZ.2 0 _ rfl
        have z1 := hZ.2 1 _ rfl
        have z2 := hZ.2 2 _ rfl
        have z3 := hZ.2 3 _ rfl
        have z4 := hZ.2 4 _ rfl
        have z5 := hZ.2 5 _ rfl
        have p0 := hP.2 0
        have p1 := hP.2 1
        have p2 := hP.2 2
        have p3 := hP.2 3
        have p4 := hP.2 4
        have p5 := hP.2 5
        go_wp2
        refine bodyPost_ret (v := .agg #[.bool ga, .bool false, .int .i64 x, .bool false, .int .i64 0, .string gd]) ?_ rfl ⟨⟨ga, false, x, false, 0, gd⟩, rfl, by first | (dsimp only; omega) | omega, by first | (dsimp only; omega) | omega, hdz, ?_, ?_⟩
        · simp [results, Try.results48, go_sem, z0, z1, z2, z3, z4, z5]
        · repeat (refine rdi_set ?_ (by omega))
          exact hR
        · repeat (refine only_set ?_ (by omega))
          exact hQ
      · skip
        go_wp2_with fail
        replace hZ := hZ.kept (gby_set w7 g 2 (.int .i64 x)) (by omega)
        replace hP := hP.put ⟨g, 2, none⟩ (.int .i64 x)
        replace hG := hG.put 2 (.int .i64 x)
        replace hF := hF.put ⟨g, 2, none⟩ (.int .i64 x)
        replace hQ := only_set (g := g) (j := 2) (v := .int .i64 x) hQ (by omega)
        replace hR := rdi_set (g := g) (j := 2) (v := .int .i64 x) hR (by omega)
        generalize hW : World.setCell _ ⟨g, 2, none⟩ (.int .i64 x) = wq at *
        clear hW f2
        refine (r_word _ C len cap _ hR).mono ?_
        rintro e wr ⟨y, rfl, hy0, hy1, hR', hO⟩
        replace hZ := hZ.kept hO (by omega)
        replace hP := hP.kept hO (by omega)
        replace hG := hG.kept hO (by omega)
        replace hF := hF.kept hO (by omega)
        replace hQ := hQ.trans hO
        replace hR := hR'
        clear hO hR'
        simp only [List.set_cons_succ, List.set_cons_zero] at hG
        clear a0 a1 a2 a3 a4 a5
        have a0 := hG.2 0 _ rfl
        have a1 := hG.2 1 _ rfl
        have a2 := hG.2 2 _ rfl
        have a3 := hG.2 3 _ rfl
        have a4 := hG.2 4 _ rfl
        have a5 := hG.2 5 _ rfl
        have f4 := hF.2 4
        have z0 := hZ.2 0 _ rfl
        have z1 := hZ.2 1 _ rfl
        have z2 := hZ.2 2 _ rfl
        have z3 := hZ.2 3 _ rfl
        have z4 := hZ.2 4 _ rfl
        have z5 := hZ.2 5 _ rfl
        have p0 := hP.2 0
        have p1 := hP.2 1
        have p2 := hP.2 2
        have p3 := hP.2 3
        have p4 := hP.2 4
        have p5 := hP.2 5
        have ew : IntKind.i64.wrap (y / 4294967296) = y / 4294967296 := wraps_i64 _ (by omega) (by omega)
        go_wp2
        refine bodyPost_ret (v := .agg #[.bool ga, .bool false, .int .i64 x, .bool true, .int .i64 (y / 4294967296), .string gd]) ?_ rfl ⟨⟨ga, false, x, true, (y / 4294967296), gd⟩, rfl, by first | (dsimp only; omega) | omega, by first | (dsimp only; omega) | omega, hdz, ?_, ?_⟩
        · simp [results, Try.results48, go_sem, z0, z1, z2, z3, z4, z5]
        · repeat (refine rdi_set ?_ (by omega))
          exact hR
        · repeat (refine only_set ?_ (by omega))
          exact hQ
  · go_wp2_with fail
    generalize hW : w4.alloc (.cells #[.bool ga, .bool true, .int .i64 0, .bool gc, .int .i64 0, .string gd] 23) = w5 at *
    clear hW
    generalize hgg : w4.heap.size = g at *
    clear hgg
    have a0 := hG.2 0 _ rfl
    have a1 := hG.2 1 _ rfl
    have a2 := hG.2 2 _ rfl
    have a3 := hG.2 3 _ rfl
    have a4 := hG.2 4 _ rfl
    have a5 := hG.2 5 _ rfl
    refine (r_off _ C len cap _ _ _ (by omega) (by omega) (by omega) (by omega) hR).mono ?_
    rintro e w6 ⟨x, rfl, hx0, hx1, hR', hO⟩
    replace hZ := hZ.kept hO (by omega)
    replace hP := hP.kept hO (by omega)
    replace hG := hG.kept hO (by omega)
    replace hF := hF.kept hO (by omega)
    replace hQ := hQ.trans hO
    replace hR := hR'
    clear hO hR'
    clear a0 a1 a2 a3 a4 a5
    have a0 := hG.2 0 _ rfl
    have a1 := hG.2 1 _ rfl
    have a2 := hG.2 2 _ rfl
    have a3 := hG.2 3 _ rfl
    have a4 := hG.2 4 _ rfl
    have a5 := hG.2 5 _ rfl
    have f2 := hF.2 2
    cases gc
    · skip
      have z0 := hZ.2 0 _ rfl
      have z1 := hZ.2 1 _ rfl
      have z2 := hZ.2 2 _ rfl
      have z3 := hZ.2 3 _ rfl
      have z4 := hZ.2 4 _ rfl
      have z5 := hZ.2 5 _ rfl
      have p0 := hP.2 0
      have p1 := hP.2 1
      have p2 := hP.2 2
      have p3 := hP.2 3
      have p4 := hP.2 4
      have p5 := hP.2 5
      go_wp2
      refine bodyPost_ret (v := .agg #[.bool ga, .bool true, .int .i64 x, .bool false, .int .i64 0, .string gd]) ?_ rfl ⟨⟨ga, true, x, false, 0, gd⟩, rfl, by first | (dsimp only; omega) | omega, by first | (dsimp only; omega) | omega, hdz, ?_, ?_⟩
      · simp [results, Try.results48, go_sem, z0, z1, z2, z3, z4, z5]
      · repeat (refine rdi_set ?_ (by omega))
        exact hR
      · repeat (refine only_set ?_ (by omega))
        exact hQ
    · skip
      go_wp2_with fail
      replace hZ := hZ.kept (gby_set w6 g 2 (.int .i64 x)) (by omega)
      replace hP := hP.put ⟨g, 2, none⟩ (.int .i64 x)
      replace hG := hG.put 2 (.int .i64 x)
      replace hF := hF.put ⟨g, 2, none⟩ (.int .i64 x)
      replace hQ := only_set (g := g) (j := 2) (v := .int .i64 x) hQ (by omega)
      replace hR := rdi_set (g := g) (j := 2) (v := .int .i64 x) hR (by omega)
      generalize hW : World.setCell _ ⟨g, 2, none⟩ (.int .i64 x) = wq at *
      clear hW f2
      refine (r_word _ C len cap _ hR).mono ?_
      rintro e wr ⟨y, rfl, hy0, hy1, hR', hO⟩
      replace hZ := hZ.kept hO (by omega)
      replace hP := hP.kept hO (by omega)
      replace hG := hG.kept hO (by omega)
      replace hF := hF.kept hO (by omega)
      replace hQ := hQ.trans hO
      replace hR := hR'
      clear hO hR'
      simp only [List.set_cons_succ, List.set_cons_zero] at hG
      clear a0 a1 a2 a3 a4 a5
      have a0 := hG.2 0 _ rfl
      have a1 := hG.2 1 _ rfl
      have a2 := hG.2 2 _ rfl
      have a3 := hG.2 3 _ rfl
      have a4 := hG.2 4 _ rfl
      have a5 := hG.2 5 _ rfl
      have f4 := hF.2 4
      have z0 := hZ.2 0 _ rfl
      have z1 := hZ.2 1 _ rfl
      have z2 := hZ.2 2 _ rfl
      have z3 := hZ.2 3 _ rfl
      have z4 := hZ.2 4 _ rfl
      have z5 := hZ.2 5 _ rfl
      have p0 := hP.2 0
      have p1 := hP.2 1
      have p2 := hP.2 2
      have p3 := hP.2 3
      have p4 := hP.2 4
      have p5 := hP.2 5
      have ew : IntKind.i64.wrap (y / 4294967296) = y / 4294967296 := wraps_i64 _ (by omega) (by omega)
      go_wp2
      refine bodyPost_ret (v := .agg #[.bool ga, .bool true, .int .i64 x, .bool true, .int .i64 (y / 4294967296), .string gd]) ?_ rfl ⟨⟨ga, true, x, true, (y / 4294967296), gd⟩, rfl, by first | (dsimp only; omega) | omega, by first | (dsimp only; omega) | omega, hdz, ?_, ?_⟩
      · simp [results, Try.results48, go_sem, z0, z1, z2, z3, z4, z5]
      · repeat (refine rdi_set ?_ (by omega))
        exact hR
      · repeat (refine only_set ?_ (by omega))
        exact hQ
set_option maxRecDepth 100000 in
set_option maxHeartbeats 800000 in
theorem d_GreBytes (B : Nat) (C : Option Addr) (len cap : Nat) (w : World) (h : Code w B C len) :
    Calls Try.prog 23 #[.slice C len cap] w fun e w' => ∃ g : GrV, e = .returned (.agg (grL g)) ∧ g.key ≤ 9223372036854775807 ∧ g.seq ≤ 9223372036854775807 ∧ g.data.size ≤ 65100 ∧ Below w.heap.size w w' := by
  have hb0 : Below w.heap.size w (w.alloc (.cells #[.bool false, .bool false, .int .i64 0, .bool false, .int .i64 0, .string ⟨#[]⟩] 23)) := (Below.refl _ w).alloc (Nat.le_refl _) _
  have hC := h.below (hb0.mono h.2.1)
  have hZ := Bx.new w #[.bool false, .bool false, .int .i64 0, .bool false, .int .i64 0, .string ⟨#[]⟩] 23
  have hP := Fx.new w #[.bool false, .bool false, .int .i64 0, .bool false, .int .i64 0, .string ⟨#[]⟩] 23
  have hlt : w.heap.size < (w.alloc (.cells #[.bool false, .bool false, .int .i64 0, .bool false, .int .i64 0, .string ⟨#[]⟩] 23)).heap.size := by simp
  go_enter Try.func23, Try.ntmps23
  go_wp2_with fail
  generalize hW : w.alloc _ = w0 at *
  clear hW
  refine (r_Open B C len cap _ hC).mono ?_
  rintro e w1 ⟨rfl, hR1, hb1, hs1⟩
  replace hZ := hZ.below hb1
  replace hP := hP.below hb1
  have hsz := hb0.size
  go_wp2_with fail
  refine (r_gre _ C len cap _ hR1).mono ?_
  rintro e w2 ⟨g, rfl, hk, hs, hd, hR2, hO2⟩
  replace hZ := hZ.kept hO2 (by omega)
  replace hP := hP.kept hO2 (by omega)
  have hB := hb0.trans ((hb1.trans (hO2.below (Nat.le_refl _) hb1.size)).mono hsz)
  have HG : Hid (g.key ≤ 9223372036854775807 ∧ g.seq ≤ 9223372036854775807 ∧ g.data.size ≤ 65100) := ⟨hk, hs, hd⟩
  clear hk hs hd
  obtain ⟨ga, gb, gk, gc, gs, gd⟩ := g
  simp only [grL]

  have z0 := hZ.2 0 _ rfl
  have z1 := hZ.2 1 _ rfl
  have z2 := hZ.2 2 _ rfl
  have z3 := hZ.2 3 _ rfl
  have z4 := hZ.2 4 _ rfl
  have z5 := hZ.2 5 _ rfl
  have p0 := hP.2 0
  have p1 := hP.2 1
  have p2 := hP.2 2
  have p3 := hP.2 3
  have p4 := hP.2 4
  have p5 := hP.2 5
  go_wp2
  refine bodyPost_ret (v := .agg #[.bool ga, .bool gb, .int .i64 gk, .bool gc, .int .i64 gs, .string gd]) ?_ rfl ⟨⟨ga, gb, gk, gc, gs, gd⟩, rfl, HG.out.1, HG.out.2.1, HG.out.2.2, ?_⟩
  · simp [results, Try.results23, go_sem, z0, z1, z2, z3, z4, z5]
  · go_grown
theorem grText_le (g : GrV) (x : Int) : (grText g x).length ≤ 16 + g.data.size := by
  unfold grText; split
  · rw [List.length_append, bl_length]; have := grHd_len g x; omega
  · simp
set_option maxRecDepth 100000 in
set_option maxHeartbeats 800000 in
theorem d_ReadGre (B : Nat) (C : Option Addr) (len cap : Nat) (w : World) (h : Code w B C len) :
    Calls Try.prog 25 #[.slice C len cap] w fun e w' => ∃ t : ByteArray, e = .returned (.string t) ∧ t.size ≤ 70000 ∧ Below w.heap.size w w' := by
  go_enter Try.func25, Try.ntmps25
  go_wp2_with fail
  refine (r_Open B C len cap _ h).mono ?_
  rintro e w1 ⟨rfl, hR1, hb1, hs1⟩
  go_wp2_with fail
  refine (r_gre _ C len cap _ hR1).mono ?_
  rintro e w2 ⟨g, rfl, hk, hs, hd, hR2, hO2⟩
  go_wp2_with fail
  refine (s_GreBytes g _ (by omega)).mono ?_
  rintro e w4 ⟨rfl, hb4⟩
  have hvl := grText_le g (grSum g)
  have hvs : (str (grText g (grSum g))).size ≤ 65116 := by rw [str_size]; omega
  generalize str (grText g (grSum g)) = tx at *
  go_wp2_with fail
  refine (r_bent _ C len cap _ _ (by omega) (hR2.far hb4)).mono ?_
  rintro e w5 ⟨t, rfl, ht, hR5, hO5⟩
  go_wp2
  go_ret
  have hO4 : Only w.heap.size w1 w4 := hO2.trans ⟨hb4.os, hb4.tape, hb4.output, hb4.size, fun i hi _ => hb4.block i hi⟩
  exact ⟨t, rfl, by omega, hb1.trans ((hO4.trans hO5).below (Nat.le_refl _) hb1.size)⟩
end Go.Proofs.Ytgbpecjgpiffmaa
