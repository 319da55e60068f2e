/-
  The draw of a datagram that is cut into a few, and of a length.
-/
import Derived.Test.YtgfpoohjbgdcpaaDhip
namespace Go.Proofs.Ytgfpoohjbgdcpaa
open Go.RowKit Go.PlainAid
set_option maxRecDepth 100000 in
set_option maxHeartbeats 1600000 in
theorem r_mtu (b : Nat) (C : Option Addr) (len cap : Nat) (w : World) (h : RdI w b C len cap) :
    Calls Try.prog 39 #[.pointer (some ⟨b, 0, none⟩)] w fun e w' => ∃ y : Int, e = .returned (.int .i64 y) ∧ RdI w' b C len cap ∧ Only b w w' := by
  go_enter Try.func39, Try.ntmps39
  go_wp2_with fail
  refine (r_once b C len cap _ _ (by omega) (by omega) h).mono ?_
  rintro e w1 ⟨q, rfl, hR1, hO1⟩
  cases q
  · go_wp2_with fail
    refine (r_below b C len cap _ _ (by omega) hR1).mono ?_
    rintro e w2 ⟨y, rfl, hy0, hy1, hR2, hO2⟩
    go_wp2
    go_ret
    exact ⟨68 + y, by first | rfl | go_num, hR2, hO1.trans hO2⟩
  · go_wp2_with fail
    refine (r_off b C len cap _ _ _ (by omega) (by omega) (by omega) (by omega) hR1).mono ?_
    rintro e w2 ⟨y, rfl, _, _, hR2, hO2⟩
    go_wp2
    go_ret
    exact ⟨y, rfl, hR2, hO1.trans hO2⟩
set_option maxRecDepth 100000 in
set_option maxHeartbeats 64000000 in
theorem r_long (b : Nat) (C : Option Addr) (len cap : Nat) (w : World) (h : RdI w b C len cap) :
    Calls Try.prog 38 #[.pointer (some ⟨b, 0, none⟩)] w fun e w' => ∃ p : IpV, e = .returned (.agg (ipL p)) ∧ p.data.size ≤ 65600 ∧ p.opts.size ≤ 24 ∧ RdI w' b C len cap ∧ Only b w w' := by
  have hbw := h.lt
  have hZ : OI b w.heap.size (w.alloc (.cells zerI.toArray 28)) w.heap.size zerI := OI.new hbw (Nat.le_refl _)
  have hR := h.alloc (.cells zerI.toArray 28)
  have hO : Only b w (w.alloc (.cells zerI.toArray 28)) := (Only.refl b w).alloc _
  have hw0 : (w.alloc (.cells zerI.toArray 28)).heap.size = w.heap.size + 1 := by simp
  clear h
  go_enter Try.func38, Try.ntmps38
  go_wp2_with fail
  generalize hW0 : w.alloc _ = w0 at *
  clear hW0
  have hs : w0.heap.size ≤ w0.heap.size := Nat.le_refl _
  refine (r_ip b C len cap _ hR).mono ?_
  rintro e ua ⟨p, rfl, hpd, hpo, _, _, hR1, hO1⟩
  obtain ⟨x0, x1, x2, x3, x4, x5, x6, x7, x8, x9, t⟩ := p
  simp only [ipL] at hpd hpo ⊢
  replace hZ := hZ.only hO1; replace hO := hO.trans hO1; have hR := hR1; replace hs := Nat.le_trans hs hO1.size; clear hO1 hR1
  have hX : OI b w0.heap.size (ua.alloc (.cells #[.int .i64 x0, .int .i64 x1, .bool x2, .bool x3, .int .i64 x4, .int .i64 x5, .int .i64 x6, .int .i64 x7, .int .i64 x8, .string x9, .string t] 28)) ua.heap.size [.int .i64 x0, .int .i64 x1, .bool x2, .bool x3, .int .i64 x4, .int .i64 x5, .int .i64 x6, .int .i64 x7, .int .i64 x8, .string x9, .string t] := OI.new hR.lt hs
  have hb : Below ua.heap.size ua (ua.alloc (.cells #[.int .i64 x0, .int .i64 x1, .bool x2, .bool x3, .int .i64 x4, .int .i64 x5, .int .i64 x6, .int .i64 x7, .int .i64 x8, .string x9, .string t] 28)) := (Below.refl _ ua).alloc (Nat.le_refl _) _
  replace hZ := hZ.below hb; have hR := hR.far hb; replace hO := hO.far hb; replace hs := Nat.le_trans hs hb.size
  have hgl := hX.le
  have hgs : ua.heap.size < (ua.alloc (.cells #[.int .i64 x0, .int .i64 x1, .bool x2, .bool x3, .int .i64 x4, .int .i64 x5, .int .i64 x6, .int .i64 x7, .int .i64 x8, .string x9, .string t] 28)).heap.size := hX.bx.1
  generalize hua : ua.alloc (.cells #[.int .i64 x0, .int .i64 x1, .bool x2, .bool x3, .int .i64 x4, .int .i64 x5, .int .i64 x6, .int .i64 x7, .int .i64 x8, .string x9, .string t] 28) = ub at *
  generalize hgg : ua.heap.size = g at *
  have y3 := hX.bx.2 3 _ rfl; have y4 := hX.bx.2 4 _ rfl; have y10 := hX.bx.2 10 _ rfl; have f0 := hX.fx.2
  by_cases hbig : 2000 < t.size
  · have hbi : (2000 : Int) < (t.size : Int) := by omega
    go_wp2_with fail
    clear y3 y4 y10 f0
    replace hX : OI b w0.heap.size (ub.setCell ⟨g, 4, none⟩ (.int .i64 0)) g [.int .i64 x0, .int .i64 x1, .bool x2, .bool x3, .int .i64 0, .int .i64 x5, .int .i64 x6, .int .i64 x7, .int .i64 x8, .string x9, .string t] := hX.set 4 (.int .i64 0)
    replace hZ := hZ.beside (c := g) (j := 4) (by omega) (.int .i64 0)
    replace hR := rdi_setI (g := g) (j := 4) (v := .int .i64 0) hR (by omega)
    replace hO := only_setI (g := g) (j := 4) (v := .int .i64 0) hO (by omega)
    replace hs : w0.heap.size ≤ (ub.setCell ⟨g, 4, none⟩ (.int .i64 0)).heap.size := by simpa using hs
    generalize ub.setCell ⟨g, 4, none⟩ (.int .i64 0) = u1 at *
    replace hX : OI b w0.heap.size (u1.setCell ⟨g, 3, none⟩ (.bool false)) g [.int .i64 x0, .int .i64 x1, .bool x2, .bool false, .int .i64 0, .int .i64 x5, .int .i64 x6, .int .i64 x7, .int .i64 x8, .string x9, .string t] := hX.set 3 (.bool false)
    replace hZ := hZ.beside (c := g) (j := 3) (by omega) (.bool false)
    replace hR := rdi_setI (g := g) (j := 3) (v := .bool false) hR (by omega)
    replace hO := only_setI (g := g) (j := 3) (v := .bool false) hO (by omega)
    replace hs : w0.heap.size ≤ (u1.setCell ⟨g, 3, none⟩ (.bool false)).heap.size := by simpa using hs
    generalize u1.setCell ⟨g, 3, none⟩ (.bool false) = u2 at *
    refine (r_bytes b C len cap _ _ (by omega) (by omega) hR).mono ?_
    rintro e u3 ⟨l, rfl, hl, hR1, hO1⟩
    have htb : (str l).size ≤ 2000 := by rw [str_size]; omega
    generalize str l = tb at *
    replace hZ := hZ.only hO1; replace hX := hX.only hO1; replace hO := hO.trans hO1; have hR := hR1; replace hs := Nat.le_trans hs hO1.size; clear hO1 hR1
    have y10 := hX.bx.2 10 _ rfl; have f0 := hX.fx.2
    go_wp2_with fail
    clear y10 f0
    replace hX : OI b w0.heap.size (u3.setCell ⟨g, 10, none⟩ (.string tb)) g [.int .i64 x0, .int .i64 x1, .bool x2, .bool false, .int .i64 0, .int .i64 x5, .int .i64 x6, .int .i64 x7, .int .i64 x8, .string x9, .string tb] := hX.set 10 (.string tb)
    replace hZ := hZ.beside (c := g) (j := 10) (by omega) (.string tb)
    replace hR := rdi_setI (g := g) (j := 10) (v := .string tb) hR (by omega)
    replace hO := only_setI (g := g) (j := 10) (v := .string tb) hO (by omega)
    replace hs : w0.heap.size ≤ (u3.setCell ⟨g, 10, none⟩ (.string tb)).heap.size := by simpa using hs
    generalize u3.setCell ⟨g, 10, none⟩ (.string tb) = u4 at *
    refine (r_once b C len cap _ _ (by omega) (by omega) hR).mono ?_
    rintro e u5 ⟨q3, rfl, hR1, hO1⟩
    replace hZ := hZ.only hO1; replace hX := hX.only hO1; replace hO := hO.trans hO1; have hR := hR1; replace hs := Nat.le_trans hs hO1.size; clear hO1 hR1
    cases q3
    · skip
      have y3 := hX.bx.2 3 _ rfl; have f0 := hX.fx.2
      go_wp2_with fail
      clear y3 f0
      refine (r_once b C len cap _ _ (by omega) (by omega) hR).mono ?_
      rintro e u6 ⟨q9, rfl, hR1, hO1⟩
      replace hZ := hZ.only hO1; replace hX := hX.only hO1; replace hO := hO.trans hO1; have hR := hR1; replace hs := Nat.le_trans hs hO1.size; clear hO1 hR1
      have y0 := hX.bx.2 0 _ rfl; have y1 := hX.bx.2 1 _ rfl; have y2 := hX.bx.2 2 _ rfl; have y3 := hX.bx.2 3 _ rfl; have y4 := hX.bx.2 4 _ rfl; have y5 := hX.bx.2 5 _ rfl; have y6 := hX.bx.2 6 _ rfl; have y7 := hX.bx.2 7 _ rfl; have y8 := hX.bx.2 8 _ rfl; have y9 := hX.bx.2 9 _ rfl; have y10 := hX.bx.2 10 _ rfl; have f0 := hX.fx.2
      have z0 := hZ.bx.2 0 _ rfl; have z1 := hZ.bx.2 1 _ rfl; have z2 := hZ.bx.2 2 _ rfl; have z3 := hZ.bx.2 3 _ rfl; have z4 := hZ.bx.2 4 _ rfl; have z5 := hZ.bx.2 5 _ rfl; have z6 := hZ.bx.2 6 _ rfl; have z7 := hZ.bx.2 7 _ rfl; have z8 := hZ.bx.2 8 _ rfl; have z9 := hZ.bx.2 9 _ rfl; have z10 := hZ.bx.2 10 _ rfl; have fz := hZ.fx.2
      have hn1 : ¬ (g = w.heap.size) := by omega
      have hn2 : ¬ (w.heap.size = g) := by omega
      have hKr : ∀ W, Below w.heap.size u6 W → RdI W b C len cap ∧ Only b w W := fun W h => ⟨hR.kept (h.mono (by omega)), hO.beyond (Nat.le_refl _) h⟩
      have hB0 := Below.refl w.heap.size u6
      have hsz : w.heap.size < u6.heap.size := by omega
      go_wp2
      refine bodyPost_ret (v := .agg #[.int .i64 x0, .int .i64 x1, .bool q9, .bool false, .int .i64 0, .int .i64 x5, .int .i64 x6, .int .i64 x7, .int .i64 x8, .string x9, .string tb]) ?_ rfl ⟨⟨x0, x1, q9, false, 0, x5, x6, x7, x8, x9, tb⟩, rfl, ?_, ?_, ?_, ?_⟩
      · simp [results, Try.results38, go_sem, z0, z1, z2, z3, z4, z5, z6, z7, z8, z9, z10]
      · dsimp only; omega
      · dsimp only; omega
      · refine (hKr _ ?_).1
        go_grown
      · refine (hKr _ ?_).2
        go_grown
    · skip
      go_wp2_with fail
      refine (r_below b C len cap _ _ (by omega) hR).mono ?_
      rintro e u7 ⟨yo, rfl, ho0, ho1, hR1, hO1⟩
      replace hZ := hZ.only hO1; replace hX := hX.only hO1; replace hO := hO.trans hO1; have hR := hR1; replace hs := Nat.le_trans hs hO1.size; clear hO1 hR1
      have y4 := hX.bx.2 4 _ rfl; have f0 := hX.fx.2
      go_wp2_with fail
      clear y4 f0
      replace hX : OI b w0.heap.size (u7.setCell ⟨g, 4, none⟩ (.int .i64 yo)) g [.int .i64 x0, .int .i64 x1, .bool x2, .bool false, .int .i64 yo, .int .i64 x5, .int .i64 x6, .int .i64 x7, .int .i64 x8, .string x9, .string tb] := hX.set 4 (.int .i64 yo)
      replace hZ := hZ.beside (c := g) (j := 4) (by omega) (.int .i64 yo)
      replace hR := rdi_setI (g := g) (j := 4) (v := .int .i64 yo) hR (by omega)
      replace hO := only_setI (g := g) (j := 4) (v := .int .i64 yo) hO (by omega)
      replace hs : w0.heap.size ≤ (u7.setCell ⟨g, 4, none⟩ (.int .i64 yo)).heap.size := by simpa using hs
      generalize u7.setCell ⟨g, 4, none⟩ (.int .i64 yo) = u8 at *
      refine (r_once b C len cap _ _ (by omega) (by omega) hR).mono ?_
      rintro e u9 ⟨qm, rfl, hR1, hO1⟩
      replace hZ := hZ.only hO1; replace hX := hX.only hO1; replace hO := hO.trans hO1; have hR := hR1; replace hs := Nat.le_trans hs hO1.size; clear hO1 hR1
      cases qm
      · skip
        have y3 := hX.bx.2 3 _ rfl; have f0 := hX.fx.2
        go_wp2_with fail
        clear y3 f0
        replace hX : OI b w0.heap.size (u9.setCell ⟨g, 3, none⟩ (.bool false)) g [.int .i64 x0, .int .i64 x1, .bool x2, .bool false, .int .i64 yo, .int .i64 x5, .int .i64 x6, .int .i64 x7, .int .i64 x8, .string x9, .string tb] := hX.set 3 (.bool false)
        replace hZ := hZ.beside (c := g) (j := 3) (by omega) (.bool false)
        replace hR := rdi_setI (g := g) (j := 3) (v := .bool false) hR (by omega)
        replace hO := only_setI (g := g) (j := 3) (v := .bool false) hO (by omega)
        replace hs : w0.heap.size ≤ (u9.setCell ⟨g, 3, none⟩ (.bool false)).heap.size := by simpa using hs
        generalize u9.setCell ⟨g, 3, none⟩ (.bool false) = u10 at *
        refine (r_once b C len cap _ _ (by omega) (by omega) hR).mono ?_
        rintro e u11 ⟨q9, rfl, hR1, hO1⟩
        replace hZ := hZ.only hO1; replace hX := hX.only hO1; replace hO := hO.trans hO1; have hR := hR1; replace hs := Nat.le_trans hs hO1.size; clear hO1 hR1
        have y0 := hX.bx.2 0 _ rfl; have y1 := hX.bx.2 1 _ rfl; have y2 := hX.bx.2 2 _ rfl; have y3 := hX.bx.2 3 _ rfl; have y4 := hX.bx.2 4 _ rfl; have y5 := hX.bx.2 5 _ rfl; have y6 := hX.bx.2 6 _ rfl; have y7 := hX.bx.2 7 _ rfl; have y8 := hX.bx.2 8 _ rfl; have y9 := hX.bx.2 9 _ rfl; have y10 := hX.bx.2 10 _ rfl; have f0 := hX.fx.2
        have z0 := hZ.bx.2 0 _ rfl; have z1 := hZ.bx.2 1 _ rfl; have z2 := hZ.bx.2 2 _ rfl; have z3 := hZ.bx.2 3 _ rfl; have z4 := hZ.bx.2 4 _ rfl; have z5 := hZ.bx.2 5 _ rfl; have z6 := hZ.bx.2 6 _ rfl; have z7 := hZ.bx.2 7 _ rfl; have z8 := hZ.bx.2 8 _ rfl; have z9 := hZ.bx.2 9 _ rfl; have z10 := hZ.bx.2 10 _ rfl; have fz := hZ.fx.2
        have hn1 : ¬ (g = w.heap.size) := by omega
        have hn2 : ¬ (w.heap.size = g) := by omega
        have hKr : ∀ W, Below w.heap.size u11 W → RdI W b C len cap ∧ Only b w W := fun W h => ⟨hR.kept (h.mono (by omega)), hO.beyond (Nat.le_refl _) h⟩
        have hB0 := Below.refl w.heap.size u11
        have hsz : w.heap.size < u11.heap.size := by omega
        go_wp2
        refine bodyPost_ret (v := .agg #[.int .i64 x0, .int .i64 x1, .bool q9, .bool false, .int .i64 yo, .int .i64 x5, .int .i64 x6, .int .i64 x7, .int .i64 x8, .string x9, .string tb]) ?_ rfl ⟨⟨x0, x1, q9, false, yo, x5, x6, x7, x8, x9, tb⟩, rfl, ?_, ?_, ?_, ?_⟩
        · simp [results, Try.results38, go_sem, z0, z1, z2, z3, z4, z5, z6, z7, z8, z9, z10]
        · dsimp only; omega
        · dsimp only; omega
        · refine (hKr _ ?_).1
          go_grown
        · refine (hKr _ ?_).2
          go_grown
      · skip
        have y3 := hX.bx.2 3 _ rfl; have y10 := hX.bx.2 10 _ rfl; have f0 := hX.fx.2
        have hq1 : (tb.size : Int) / 8 * 8 ≤ tb.size := by omega
        have hq2 : IntKind.i64.wrap ((tb.size : Int) / 8) = (tb.size : Int) / 8 := wraps_i64 _ (by omega) (by omega)
        have hq3 : IntKind.i64.wrap ((tb.size : Int) / 8 * 8) = (tb.size : Int) / 8 * 8 := wraps_i64 _ (by omega) (by omega)
        go_wp2_with fail
        clear y3 y10 f0
        replace hX : OI b w0.heap.size (u9.setCell ⟨g, 3, none⟩ (.bool true)) g [.int .i64 x0, .int .i64 x1, .bool x2, .bool true, .int .i64 yo, .int .i64 x5, .int .i64 x6, .int .i64 x7, .int .i64 x8, .string x9, .string tb] := hX.set 3 (.bool true)
        replace hZ := hZ.beside (c := g) (j := 3) (by omega) (.bool true)
        replace hR := rdi_setI (g := g) (j := 3) (v := .bool true) hR (by omega)
        replace hO := only_setI (g := g) (j := 3) (v := .bool true) hO (by omega)
        replace hs : w0.heap.size ≤ (u9.setCell ⟨g, 3, none⟩ (.bool true)).heap.size := by simpa using hs
        generalize u9.setCell ⟨g, 3, none⟩ (.bool true) = u12 at *
        replace hX : OI b w0.heap.size (u12.setCell ⟨g, 10, none⟩ (.string (tb.extract 0 (tb.size / 8 * 8)))) g [.int .i64 x0, .int .i64 x1, .bool x2, .bool true, .int .i64 yo, .int .i64 x5, .int .i64 x6, .int .i64 x7, .int .i64 x8, .string x9, .string (tb.extract 0 (tb.size / 8 * 8))] := hX.set 10 (.string (tb.extract 0 (tb.size / 8 * 8)))
        replace hZ := hZ.beside (c := g) (j := 10) (by omega) (.string (tb.extract 0 (tb.size / 8 * 8)))
        replace hR := rdi_setI (g := g) (j := 10) (v := .string (tb.extract 0 (tb.size / 8 * 8))) hR (by omega)
        replace hO := only_setI (g := g) (j := 10) (v := .string (tb.extract 0 (tb.size / 8 * 8))) hO (by omega)
        replace hs : w0.heap.size ≤ (u12.setCell ⟨g, 10, none⟩ (.string (tb.extract 0 (tb.size / 8 * 8)))).heap.size := by simpa using hs
        generalize u12.setCell ⟨g, 10, none⟩ (.string (tb.extract 0 (tb.size / 8 * 8))) = u13 at *
        have hte : (tb.extract 0 (tb.size / 8 * 8)).size ≤ 2000 := by rw [ByteArray.size_extract]; omega
        generalize tb.extract 0 (tb.size / 8 * 8) = tx at *
        refine (r_once b C len cap _ _ (by omega) (by omega) hR).mono ?_
        rintro e u14 ⟨q9, rfl, hR1, hO1⟩
        replace hZ := hZ.only hO1; replace hX := hX.only hO1; replace hO := hO.trans hO1; have hR := hR1; replace hs := Nat.le_trans hs hO1.size; clear hO1 hR1
        have y0 := hX.bx.2 0 _ rfl; have y1 := hX.bx.2 1 _ rfl; have y2 := hX.bx.2 2 _ rfl; have y3 := hX.bx.2 3 _ rfl; have y4 := hX.bx.2 4 _ rfl; have y5 := hX.bx.2 5 _ rfl; have y6 := hX.bx.2 6 _ rfl; have y7 := hX.bx.2 7 _ rfl; have y8 := hX.bx.2 8 _ rfl; have y9 := hX.bx.2 9 _ rfl; have y10 := hX.bx.2 10 _ rfl; have f0 := hX.fx.2
        have z0 := hZ.bx.2 0 _ rfl; have z1 := hZ.bx.2 1 _ rfl; have z2 := hZ.bx.2 2 _ rfl; have z3 := hZ.bx.2 3 _ rfl; have z4 := hZ.bx.2 4 _ rfl; have z5 := hZ.bx.2 5 _ rfl; have z6 := hZ.bx.2 6 _ rfl; have z7 := hZ.bx.2 7 _ rfl; have z8 := hZ.bx.2 8 _ rfl; have z9 := hZ.bx.2 9 _ rfl; have z10 := hZ.bx.2 10 _ rfl; have fz := hZ.fx.2
        have hn1 : ¬ (g = w.heap.size) := by omega
        have hn2 : ¬ (w.heap.size = g) := by omega
        have hKr : ∀ W, Below w.heap.size u14 W → RdI W b C len cap ∧ Only b w W := fun W h => ⟨hR.kept (h.mono (by omega)), hO.beyond (Nat.le_refl _) h⟩
        have hB0 := Below.refl w.heap.size u14
        have hsz : w.heap.size < u14.heap.size := by omega
        go_wp2
        refine bodyPost_ret (v := .agg #[.int .i64 x0, .int .i64 x1, .bool q9, .bool true, .int .i64 yo, .int .i64 x5, .int .i64 x6, .int .i64 x7, .int .i64 x8, .string x9, .string tx]) ?_ rfl ⟨⟨x0, x1, q9, true, yo, x5, x6, x7, x8, x9, tx⟩, rfl, ?_, ?_, ?_, ?_⟩
        · simp [results, Try.results38, go_sem, z0, z1, z2, z3, z4, z5, z6, z7, z8, z9, z10]
        · dsimp only; omega
        · dsimp only; omega
        · refine (hKr _ ?_).1
          go_grown
        · refine (hKr _ ?_).2
          go_grown
  · have hbi : ¬ (2000 : Int) < (t.size : Int) := by omega
    go_wp2_with fail
    clear y3 y4 y10 f0
    replace hX : OI b w0.heap.size (ub.setCell ⟨g, 4, none⟩ (.int .i64 0)) g [.int .i64 x0, .int .i64 x1, .bool x2, .bool x3, .int .i64 0, .int .i64 x5, .int .i64 x6, .int .i64 x7, .int .i64 x8, .string x9, .string t] := hX.set 4 (.int .i64 0)
    replace hZ := hZ.beside (c := g) (j := 4) (by omega) (.int .i64 0)
    replace hR := rdi_setI (g := g) (j := 4) (v := .int .i64 0) hR (by omega)
    replace hO := only_setI (g := g) (j := 4) (v := .int .i64 0) hO (by omega)
    replace hs : w0.heap.size ≤ (ub.setCell ⟨g, 4, none⟩ (.int .i64 0)).heap.size := by simpa using hs
    generalize ub.setCell ⟨g, 4, none⟩ (.int .i64 0) = u15 at *
    replace hX : OI b w0.heap.size (u15.setCell ⟨g, 3, none⟩ (.bool false)) g [.int .i64 x0, .int .i64 x1, .bool x2, .bool false, .int .i64 0, .int .i64 x5, .int .i64 x6, .int .i64 x7, .int .i64 x8, .string x9, .string t] := hX.set 3 (.bool false)
    replace hZ := hZ.beside (c := g) (j := 3) (by omega) (.bool false)
    replace hR := rdi_setI (g := g) (j := 3) (v := .bool false) hR (by omega)
    replace hO := only_setI (g := g) (j := 3) (v := .bool false) hO (by omega)
    replace hs : w0.heap.size ≤ (u15.setCell ⟨g, 3, none⟩ (.bool false)).heap.size := by simpa using hs
    generalize u15.setCell ⟨g, 3, none⟩ (.bool false) = u16 at *
    refine (r_once b C len cap _ _ (by omega) (by omega) hR).mono ?_
    rintro e u17 ⟨qh, rfl, hR1, hO1⟩
    replace hZ := hZ.only hO1; replace hX := hX.only hO1; replace hO := hO.trans hO1; have hR := hR1; replace hs := Nat.le_trans hs hO1.size; clear hO1 hR1
    cases qh
    · go_wp2_with fail
      refine (r_once b C len cap _ _ (by omega) (by omega) hR).mono ?_
      rintro e u18 ⟨q3, rfl, hR1, hO1⟩
      replace hZ := hZ.only hO1; replace hX := hX.only hO1; replace hO := hO.trans hO1; have hR := hR1; replace hs := Nat.le_trans hs hO1.size; clear hO1 hR1
      cases q3
      · skip
        have y3 := hX.bx.2 3 _ rfl; have f0 := hX.fx.2
        go_wp2_with fail
        clear y3 f0
        refine (r_once b C len cap _ _ (by omega) (by omega) hR).mono ?_
        rintro e u19 ⟨q9, rfl, hR1, hO1⟩
        replace hZ := hZ.only hO1; replace hX := hX.only hO1; replace hO := hO.trans hO1; have hR := hR1; replace hs := Nat.le_trans hs hO1.size; clear hO1 hR1
        have y0 := hX.bx.2 0 _ rfl; have y1 := hX.bx.2 1 _ rfl; have y2 := hX.bx.2 2 _ rfl; have y3 := hX.bx.2 3 _ rfl; have y4 := hX.bx.2 4 _ rfl; have y5 := hX.bx.2 5 _ rfl; have y6 := hX.bx.2 6 _ rfl; have y7 := hX.bx.2 7 _ rfl; have y8 := hX.bx.2 8 _ rfl; have y9 := hX.bx.2 9 _ rfl; have y10 := hX.bx.2 10 _ rfl; have f0 := hX.fx.2
        have z0 := hZ.bx.2 0 _ rfl; have z1 := hZ.bx.2 1 _ rfl; have z2 := hZ.bx.2 2 _ rfl; have z3 := hZ.bx.2 3 _ rfl; have z4 := hZ.bx.2 4 _ rfl; have z5 := hZ.bx.2 5 _ rfl; have z6 := hZ.bx.2 6 _ rfl; have z7 := hZ.bx.2 7 _ rfl; have z8 := hZ.bx.2 8 _ rfl; have z9 := hZ.bx.2 9 _ rfl; have z10 := hZ.bx.2 10 _ rfl; have fz := hZ.fx.2
        have hn1 : ¬ (g = w.heap.size) := by omega
        have hn2 : ¬ (w.heap.size = g) := by omega
        have hKr : ∀ W, Below w.heap.size u19 W → RdI W b C len cap ∧ Only b w W := fun W h => ⟨hR.kept (h.mono (by omega)), hO.beyond (Nat.le_refl _) h⟩
        have hB0 := Below.refl w.heap.size u19
        have hsz : w.heap.size < u19.heap.size := by omega
        go_wp2
        refine bodyPost_ret (v := .agg #[.int .i64 x0, .int .i64 x1, .bool q9, .bool false, .int .i64 0, .int .i64 x5, .int .i64 x6, .int .i64 x7, .int .i64 x8, .string x9, .string t]) ?_ rfl ⟨⟨x0, x1, q9, false, 0, x5, x6, x7, x8, x9, t⟩, rfl, ?_, ?_, ?_, ?_⟩
        · simp [results, Try.results38, go_sem, z0, z1, z2, z3, z4, z5, z6, z7, z8, z9, z10]
        · dsimp only; omega
        · dsimp only; omega
        · refine (hKr _ ?_).1
          go_grown
        · refine (hKr _ ?_).2
          go_grown
      · skip
        go_wp2_with fail
        refine (r_below b C len cap _ _ (by omega) hR).mono ?_
        rintro e u20 ⟨yo, rfl, ho0, ho1, hR1, hO1⟩
        replace hZ := hZ.only hO1; replace hX := hX.only hO1; replace hO := hO.trans hO1; have hR := hR1; replace hs := Nat.le_trans hs hO1.size; clear hO1 hR1
        have y4 := hX.bx.2 4 _ rfl; have f0 := hX.fx.2
        go_wp2_with fail
        clear y4 f0
        replace hX : OI b w0.heap.size (u20.setCell ⟨g, 4, none⟩ (.int .i64 yo)) g [.int .i64 x0, .int .i64 x1, .bool x2, .bool false, .int .i64 yo, .int .i64 x5, .int .i64 x6, .int .i64 x7, .int .i64 x8, .string x9, .string t] := hX.set 4 (.int .i64 yo)
        replace hZ := hZ.beside (c := g) (j := 4) (by omega) (.int .i64 yo)
        replace hR := rdi_setI (g := g) (j := 4) (v := .int .i64 yo) hR (by omega)
        replace hO := only_setI (g := g) (j := 4) (v := .int .i64 yo) hO (by omega)
        replace hs : w0.heap.size ≤ (u20.setCell ⟨g, 4, none⟩ (.int .i64 yo)).heap.size := by simpa using hs
        generalize u20.setCell ⟨g, 4, none⟩ (.int .i64 yo) = u21 at *
        refine (r_once b C len cap _ _ (by omega) (by omega) hR).mono ?_
        rintro e u22 ⟨qm, rfl, hR1, hO1⟩
        replace hZ := hZ.only hO1; replace hX := hX.only hO1; replace hO := hO.trans hO1; have hR := hR1; replace hs := Nat.le_trans hs hO1.size; clear hO1 hR1
        cases qm
        · skip
          have y3 := hX.bx.2 3 _ rfl; have f0 := hX.fx.2
          go_wp2_with fail
          clear y3 f0
          replace hX : OI b w0.heap.size (u22.setCell ⟨g, 3, none⟩ (.bool false)) g [.int .i64 x0, .int .i64 x1, .bool x2, .bool false, .int .i64 yo, .int .i64 x5, .int .i64 x6, .int .i64 x7, .int .i64 x8, .string x9, .string t] := hX.set 3 (.bool false)
          replace hZ := hZ.beside (c := g) (j := 3) (by omega) (.bool false)
          replace hR := rdi_setI (g := g) (j := 3) (v := .bool false) hR (by omega)
          replace hO := only_setI (g := g) (j := 3) (v := .bool false) hO (by omega)
          replace hs : w0.heap.size ≤ (u22.setCell ⟨g, 3, none⟩ (.bool false)).heap.size := by simpa using hs
          generalize u22.setCell ⟨g, 3, none⟩ (.bool false) = u23 at *
          refine (r_once b C len cap _ _ (by omega) (by omega) hR).mono ?_
          rintro e u24 ⟨q9, rfl, hR1, hO1⟩
          replace hZ := hZ.only hO1; replace hX := hX.only hO1; replace hO := hO.trans hO1; have hR := hR1; replace hs := Nat.le_trans hs hO1.size; clear hO1 hR1
          have y0 := hX.bx.2 0 _ rfl; have y1 := hX.bx.2 1 _ rfl; have y2 := hX.bx.2 2 _ rfl; have y3 := hX.bx.2 3 _ rfl; have y4 := hX.bx.2 4 _ rfl; have y5 := hX.bx.2 5 _ rfl; have y6 := hX.bx.2 6 _ rfl; have y7 := hX.bx.2 7 _ rfl; have y8 := hX.bx.2 8 _ rfl; have y9 := hX.bx.2 9 _ rfl; have y10 := hX.bx.2 10 _ rfl; have f0 := hX.fx.2
          have z0 := hZ.bx.2 0 _ rfl; have z1 := hZ.bx.2 1 _ rfl; have z2 := hZ.bx.2 2 _ rfl; have z3 := hZ.bx.2 3 _ rfl; have z4 := hZ.bx.2 4 _ rfl; have z5 := hZ.bx.2 5 _ rfl; have z6 := hZ.bx.2 6 _ rfl; have z7 := hZ.bx.2 7 _ rfl; have z8 := hZ.bx.2 8 _ rfl; have z9 := hZ.bx.2 9 _ rfl; have z10 := hZ.bx.2 10 _ rfl; have fz := hZ.fx.2
          have hn1 : ¬ (g = w.heap.size) := by omega
          have hn2 : ¬ (w.heap.size = g) := by omega
          have hKr : ∀ W, Below w.heap.size u24 W → RdI W b C len cap ∧ Only b w W := fun W h => ⟨hR.kept (h.mono (by omega)), hO.beyond (Nat.le_refl _) h⟩
          have hB0 := Below.refl w.heap.size u24
          have hsz : w.heap.size < u24.heap.size := by omega
          go_wp2
          refine bodyPost_ret (v := .agg #[.int .i64 x0, .int .i64 x1, .bool q9, .bool false, .int .i64 yo, .int .i64 x5, .int .i64 x6, .int .i64 x7, .int .i64 x8, .string x9, .string t]) ?_ rfl ⟨⟨x0, x1, q9, false, yo, x5, x6, x7, x8, x9, t⟩, rfl, ?_, ?_, ?_, ?_⟩
          · simp [results, Try.results38, go_sem, z0, z1, z2, z3, z4, z5, z6, z7, z8, z9, z10]
          · dsimp only; omega
          · dsimp only; omega
          · refine (hKr _ ?_).1
            go_grown
          · refine (hKr _ ?_).2
            go_grown
        · skip
          have y3 := hX.bx.2 3 _ rfl; have y10 := hX.bx.2 10 _ rfl; have f0 := hX.fx.2
          have hq1 : (t.size : Int) / 8 * 8 ≤ t.size := by omega
          have hq2 : IntKind.i64.wrap ((t.size : Int) / 8) = (t.size : Int) / 8 := wraps_i64 _ (by omega) (by omega)
          have hq3 : IntKind.i64.wrap ((t.size : Int) / 8 * 8) = (t.size : Int) / 8 * 8 := wraps_i64 _ (by omega) (by omega)
          go_wp2_with fail
          clear y3 y10 f0
          replace hX : OI b w0.heap.size (u22.setCell ⟨g, 3, none⟩ (.bool true)) g [.int .i64 x0, .int .i64 x1, .bool x2, .bool true, .int .i64 yo, .int .i64 x5, .int .i64 x6, .int .i64 x7, .int .i64 x8, .string x9, .string t] := hX.set 3 (.bool true)
          replace hZ := hZ.beside (c := g) (j := 3) (by omega) (.bool true)
          replace hR := rdi_setI (g := g) (j := 3) (v := .bool true) hR (by omega)
          replace hO := only_setI (g := g) (j := 3) (v := .bool true) hO (by omega)
          replace hs : w0.heap.size ≤ (u22.setCell ⟨g, 3, none⟩ (.bool true)).heap.size := by simpa using hs
          generalize u22.setCell ⟨g, 3, none⟩ (.bool true) = u25 at *
          replace hX : OI b w0.heap.size (u25.setCell ⟨g, 10, none⟩ (.string (t.extract 0 (t.size / 8 * 8)))) g [.int .i64 x0, .int .i64 x1, .bool x2, .bool true, .int .i64 yo, .int .i64 x5, .int .i64 x6, .int .i64 x7, .int .i64 x8, .string x9, .string (t.extract 0 (t.size / 8 * 8))] := hX.set 10 (.string (t.extract 0 (t.size / 8 * 8)))
          replace hZ := hZ.beside (c := g) (j := 10) (by omega) (.string (t.extract 0 (t.size / 8 * 8)))
          replace hR := rdi_setI (g := g) (j := 10) (v := .string (t.extract 0 (t.size / 8 * 8))) hR (by omega)
          replace hO := only_setI (g := g) (j := 10) (v := .string (t.extract 0 (t.size / 8 * 8))) hO (by omega)
          replace hs : w0.heap.size ≤ (u25.setCell ⟨g, 10, none⟩ (.string (t.extract 0 (t.size / 8 * 8)))).heap.size := by simpa using hs
          generalize u25.setCell ⟨g, 10, none⟩ (.string (t.extract 0 (t.size / 8 * 8))) = u26 at *
          have hte : (t.extract 0 (t.size / 8 * 8)).size ≤ 2000 := by rw [ByteArray.size_extract]; omega
          generalize t.extract 0 (t.size / 8 * 8) = tx at *
          refine (r_once b C len cap _ _ (by omega) (by omega) hR).mono ?_
          rintro e u27 ⟨q9, rfl, hR1, hO1⟩
          replace hZ := hZ.only hO1; replace hX := hX.only hO1; replace hO := hO.trans hO1; have hR := hR1; replace hs := Nat.le_trans hs hO1.size; clear hO1 hR1
          have y0 := hX.bx.2 0 _ rfl; have y1 := hX.bx.2 1 _ rfl; have y2 := hX.bx.2 2 _ rfl; have y3 := hX.bx.2 3 _ rfl; have y4 := hX.bx.2 4 _ rfl; have y5 := hX.bx.2 5 _ rfl; have y6 := hX.bx.2 6 _ rfl; have y7 := hX.bx.2 7 _ rfl; have y8 := hX.bx.2 8 _ rfl; have y9 := hX.bx.2 9 _ rfl; have y10 := hX.bx.2 10 _ rfl; have f0 := hX.fx.2
          have z0 := hZ.bx.2 0 _ rfl; have z1 := hZ.bx.2 1 _ rfl; have z2 := hZ.bx.2 2 _ rfl; have z3 := hZ.bx.2 3 _ rfl; have z4 := hZ.bx.2 4 _ rfl; have z5 := hZ.bx.2 5 _ rfl; have z6 := hZ.bx.2 6 _ rfl; have z7 := hZ.bx.2 7 _ rfl; have z8 := hZ.bx.2 8 _ rfl; have z9 := hZ.bx.2 9 _ rfl; have z10 := hZ.bx.2 10 _ rfl; have fz := hZ.fx.2
          have hn1 : ¬ (g = w.heap.size) := by omega
          have hn2 : ¬ (w.heap.size = g) := by omega
          have hKr : ∀ W, Below w.heap.size u27 W → RdI W b C len cap ∧ Only b w W := fun W h => ⟨hR.kept (h.mono (by omega)), hO.beyond (Nat.le_refl _) h⟩
          have hB0 := Below.refl w.heap.size u27
          have hsz : w.heap.size < u27.heap.size := by omega
          go_wp2
          refine bodyPost_ret (v := .agg #[.int .i64 x0, .int .i64 x1, .bool q9, .bool true, .int .i64 yo, .int .i64 x5, .int .i64 x6, .int .i64 x7, .int .i64 x8, .string x9, .string tx]) ?_ rfl ⟨⟨x0, x1, q9, true, yo, x5, x6, x7, x8, x9, tx⟩, rfl, ?_, ?_, ?_, ?_⟩
          · simp [results, Try.results38, go_sem, z0, z1, z2, z3, z4, z5, z6, z7, z8, z9, z10]
          · dsimp only; omega
          · dsimp only; omega
          · refine (hKr _ ?_).1
            go_grown
          · refine (hKr _ ?_).2
            go_grown
    · skip
      go_wp2_with fail
      refine (r_bytes b C len cap _ _ (by omega) (by omega) hR).mono ?_
      rintro e u28 ⟨l, rfl, hl, hR1, hO1⟩
      have htb : (str l).size ≤ 2000 := by rw [str_size]; omega
      generalize str l = tb at *
      replace hZ := hZ.only hO1; replace hX := hX.only hO1; replace hO := hO.trans hO1; have hR := hR1; replace hs := Nat.le_trans hs hO1.size; clear hO1 hR1
      have y10 := hX.bx.2 10 _ rfl; have f0 := hX.fx.2
      go_wp2_with fail
      clear y10 f0
      replace hX : OI b w0.heap.size (u28.setCell ⟨g, 10, none⟩ (.string tb)) g [.int .i64 x0, .int .i64 x1, .bool x2, .bool false, .int .i64 0, .int .i64 x5, .int .i64 x6, .int .i64 x7, .int .i64 x8, .string x9, .string tb] := hX.set 10 (.string tb)
      replace hZ := hZ.beside (c := g) (j := 10) (by omega) (.string tb)
      replace hR := rdi_setI (g := g) (j := 10) (v := .string tb) hR (by omega)
      replace hO := only_setI (g := g) (j := 10) (v := .string tb) hO (by omega)
      replace hs : w0.heap.size ≤ (u28.setCell ⟨g, 10, none⟩ (.string tb)).heap.size := by simpa using hs
      generalize u28.setCell ⟨g, 10, none⟩ (.string tb) = u29 at *
      refine (r_once b C len cap _ _ (by omega) (by omega) hR).mono ?_
      rintro e u30 ⟨q3, rfl, hR1, hO1⟩
      replace hZ := hZ.only hO1; replace hX := hX.only hO1; replace hO := hO.trans hO1; have hR := hR1; replace hs := Nat.le_trans hs hO1.size; clear hO1 hR1
      cases q3
      · skip
        have y3 := hX.bx.2 3 _ rfl; have f0 := hX.fx.2
        go_wp2_with fail
        clear y3 f0
        refine (r_once b C len cap _ _ (by omega) (by omega) hR).mono ?_
        rintro e u31 ⟨q9, rfl, hR1, hO1⟩
        replace hZ := hZ.only hO1; replace hX := hX.only hO1; replace hO := hO.trans hO1; have hR := hR1; replace hs := Nat.le_trans hs hO1.size; clear hO1 hR1
        have y0 := hX.bx.2 0 _ rfl; have y1 := hX.bx.2 1 _ rfl; have y2 := hX.bx.2 2 _ rfl; have y3 := hX.bx.2 3 _ rfl; have y4 := hX.bx.2 4 _ rfl; have y5 := hX.bx.2 5 _ rfl; have y6 := hX.bx.2 6 _ rfl; have y7 := hX.bx.2 7 _ rfl; have y8 := hX.bx.2 8 _ rfl; have y9 := hX.bx.2 9 _ rfl; have y10 := hX.bx.2 10 _ rfl; have f0 := hX.fx.2
        have z0 := hZ.bx.2 0 _ rfl; have z1 := hZ.bx.2 1 _ rfl; have z2 := hZ.bx.2 2 _ rfl; have z3 := hZ.bx.2 3 _ rfl; have z4 := hZ.bx.2 4 _ rfl; have z5 := hZ.bx.2 5 _ rfl; have z6 := hZ.bx.2 6 _ rfl; have z7 := hZ.bx.2 7 _ rfl; have z8 := hZ.bx.2 8 _ rfl; have z9 := hZ.bx.2 9 _ rfl; have z10 := hZ.bx.2 10 _ rfl; have fz := hZ.fx.2
        have hn1 : ¬ (g = w.heap.size) := by omega
        have hn2 : ¬ (w.heap.size = g) := by omega
        have hKr : ∀ W, Below w.heap.size u31 W → RdI W b C len cap ∧ Only b w W := fun W h => ⟨hR.kept (h.mono (by omega)), hO.beyond (Nat.le_refl _) h⟩
        have hB0 := Below.refl w.heap.size u31
        have hsz : w.heap.size < u31.heap.size := by omega
        go_wp2
        refine bodyPost_ret (v := .agg #[.int .i64 x0, .int .i64 x1, .bool q9, .bool false, .int .i64 0, .int .i64 x5, .int .i64 x6, .int .i64 x7, .int .i64 x8, .string x9, .string tb]) ?_ rfl ⟨⟨x0, x1, q9, false, 0, x5, x6, x7, x8, x9, tb⟩, rfl, ?_, ?_, ?_, ?_⟩
        · simp [results, Try.results38, go_sem, z0, z1, z2, z3, z4, z5, z6, z7, z8, z9, z10]
        · dsimp only; omega
        · dsimp only; omega
        · refine (hKr _ ?_).1
          go_grown
        · refine (hKr _ ?_).2
          go_grown
      · skip
        go_wp2_with fail
        refine (r_below b C len cap _ _ (by omega) hR).mono ?_
        rintro e u32 ⟨yo, rfl, ho0, ho1, hR1, hO1⟩
        replace hZ := hZ.only hO1; replace hX := hX.only hO1; replace hO := hO.trans hO1; have hR := hR1; replace hs := Nat.le_trans hs hO1.size; clear hO1 hR1
        have y4 := hX.bx.2 4 _ rfl; have f0 := hX.fx.2
        go_wp2_with fail
        clear y4 f0
        replace hX : OI b w0.heap.size (u32.setCell ⟨g, 4, none⟩ (.int .i64 yo)) g [.int .i64 x0, .int .i64 x1, .bool x2, .bool false, .int .i64 yo, .int .i64 x5, .int .i64 x6, .int .i64 x7, .int .i64 x8, .string x9, .string tb] := hX.set 4 (.int .i64 yo)
        replace hZ := hZ.beside (c := g) (j := 4) (by omega) (.int .i64 yo)
        replace hR := rdi_setI (g := g) (j := 4) (v := .int .i64 yo) hR (by omega)
        replace hO := only_setI (g := g) (j := 4) (v := .int .i64 yo) hO (by omega)
        replace hs : w0.heap.size ≤ (u32.setCell ⟨g, 4, none⟩ (.int .i64 yo)).heap.size := by simpa using hs
        generalize u32.setCell ⟨g, 4, none⟩ (.int .i64 yo) = u33 at *
        refine (r_once b C len cap _ _ (by omega) (by omega) hR).mono ?_
        rintro e u34 ⟨qm, rfl, hR1, hO1⟩
        replace hZ := hZ.only hO1; replace hX := hX.only hO1; replace hO := hO.trans hO1; have hR := hR1; replace hs := Nat.le_trans hs hO1.size; clear hO1 hR1
        cases qm
        · skip
          have y3 := hX.bx.2 3 _ rfl; have f0 := hX.fx.2
          go_wp2_with fail
          clear y3 f0
          replace hX : OI b w0.heap.size (u34.setCell ⟨g, 3, none⟩ (.bool false)) g [.int .i64 x0, .int .i64 x1, .bool x2, .bool false, .int .i64 yo, .int .i64 x5, .int .i64 x6, .int .i64 x7, .int .i64 x8, .string x9, .string tb] := hX.set 3 (.bool false)
          replace hZ := hZ.beside (c := g) (j := 3) (by omega) (.bool false)
          replace hR := rdi_setI (g := g) (j := 3) (v := .bool false) hR (by omega)
          replace hO := only_setI (g := g) (j := 3) (v := .bool false) hO (by omega)
          replace hs : w0.heap.size ≤ (u34.setCell ⟨g, 3, none⟩ (.bool false)).heap.size := by simpa using hs
          generalize u34.setCell ⟨g, 3, none⟩ (.bool false) = u35 at *
          refine (r_once b C len cap _ _ (by omega) (by omega) hR).mono ?_
          rintro e u36 ⟨q9, rfl, hR1, hO1⟩
          replace hZ := hZ.only hO1; replace hX := hX.only hO1; replace hO := hO.trans hO1; have hR := hR1; replace hs := Nat.le_trans hs hO1.size; clear hO1 hR1
          have y0 := hX.bx.2 0 _ rfl; have y1 := hX.bx.2 1 _ rfl; have y2 := hX.bx.2 2 _ rfl; have y3 := hX.bx.2 3 _ rfl; have y4 := hX.bx.2 4 _ rfl; have y5 := hX.bx.2 5 _ rfl; have y6 := hX.bx.2 6 _ rfl; have y7 := hX.bx.2 7 _ rfl; have y8 := hX.bx.2 8 _ rfl; have y9 := hX.bx.2 9 _ rfl; have y10 := hX.bx.2 10 _ rfl; have f0 := hX.fx.2
          have z0 := hZ.bx.2 0 _ rfl; have z1 := hZ.bx.2 1 _ rfl; have z2 := hZ.bx.2 2 _ rfl; have z3 := hZ.bx.2 3 _ rfl; have z4 := hZ.bx.2 4 _ rfl; have z5 := hZ.bx.2 5 _ rfl; have z6 := hZ.bx.2 6 _ rfl; have z7 := hZ.bx.2 7 _ rfl; have z8 := hZ.bx.2 8 _ rfl; have z9 := hZ.bx.2 9 _ rfl; have z10 := hZ.bx.2 10 _ rfl; have fz := hZ.fx.2
          have hn1 : ¬ (g = w.heap.size) := by omega
          have hn2 : ¬ (w.heap.size = g) := by omega
          have hKr : ∀ W, Below w.heap.size u36 W → RdI W b C len cap ∧ Only b w W := fun W h => ⟨hR.kept (h.mono (by omega)), hO.beyond (Nat.le_refl _) h⟩
          have hB0 := Below.refl w.heap.size u36
          have hsz : w.heap.size < u36.heap.size := by omega
          go_wp2
          refine bodyPost_ret (v := .agg #[.int .i64 x0, .int .i64 x1, .bool q9, .bool false, .int .i64 yo, .int .i64 x5, .int .i64 x6, .int .i64 x7, .int .i64 x8, .string x9, .string tb]) ?_ rfl ⟨⟨x0, x1, q9, false, yo, x5, x6, x7, x8, x9, tb⟩, rfl, ?_, ?_, ?_, ?_⟩
          · simp [results, Try.results38, go_sem, z0, z1, z2, z3, z4, z5, z6, z7, z8, z9, z10]
          · dsimp only; omega
          · dsimp only; omega
          · refine (hKr _ ?_).1
            go_grown
          · refine (hKr _ ?_).2
            go_grown
        · skip
          have y3 := hX.bx.2 3 _ rfl; have y10 := hX.bx.2 10 _ rfl; have f0 := hX.fx.2
          have hq1 : (tb.size : Int) / 8 * 8 ≤ tb.size := by omega
          have hq2 : IntKind.i64.wrap ((tb.size : Int) / 8) = (tb.size : Int) / 8 := wraps_i64 _ (by omega) (by omega)
          have hq3 : IntKind.i64.wrap ((tb.size : Int) / 8 * 8) = (tb.size : Int) / 8 * 8 := wraps_i64 _ (by omega) (by omega)
          go_wp2_with fail
          clear y3 y10 f0
          replace hX : OI b w0.heap.size (u34.setCell ⟨g, 3, none⟩ (.bool true)) g [.int .i64 x0, .int .i64 x1, .bool x2, .bool true, .int .i64 yo, .int .i64 x5, .int .i64 x6, .int .i64 x7, .int .i64 x8, .string x9, .string tb] := hX.set 3 (.bool true)
          replace hZ := hZ.beside (c := g) (j := 3) (by omega) (.bool true)
          replace hR := rdi_setI (g := g) (j := 3) (v := .bool true) hR (by omega)
          replace hO := only_setI (g := g) (j := 3) (v := .bool true) hO (by omega)
          replace hs : w0.heap.size ≤ (u34.setCell ⟨g, 3, none⟩ (.bool true)).heap.size := by simpa using hs
          generalize u34.setCell ⟨g, 3, none⟩ (.bool true) = u37 at *
          replace hX : OI b w0.heap.size (u37.setCell ⟨g, 10, none⟩ (.string (tb.extract 0 (tb.size / 8 * 8)))) g [.int .i64 x0, .int .i64 x1, .bool x2, .bool true, .int .i64 yo, .int .i64 x5, .int .i64 x6, .int .i64 x7, .int .i64 x8, .string x9, .string (tb.extract 0 (tb.size / 8 * 8))] := hX.set 10 (.string (tb.extract 0 (tb.size / 8 * 8)))
          replace hZ := hZ.beside (c := g) (j := 10) (by omega) (.string (tb.extract 0 (tb.size / 8 * 8)))
          replace hR := rdi_setI (g := g) (j := 10) (v := .string (tb.extract 0 (tb.size / 8 * 8))) hR (by omega)
          replace hO := only_setI (g := g) (j := 10) (v := .string (tb.extract 0 (tb.size / 8 * 8))) hO (by omega)
          replace hs : w0.heap.size ≤ (u37.setCell ⟨g, 10, none⟩ (.string (tb.extract 0 (tb.size / 8 * 8)))).heap.size := by simpa using hs
          generalize u37.setCell ⟨g, 10, none⟩ (.string (tb.extract 0 (tb.size / 8 * 8))) = u38 at *
          have hte : (tb.extract 0 (tb.size / 8 * 8)).size ≤ 2000 := by rw [ByteArray.size_extract]; omega
          generalize tb.extract 0 (tb.size / 8 * 8) = tx at *
          refine (r_once b C len cap _ _ (by omega) (by omega) hR).mono ?_
          rintro e u39 ⟨q9, rfl, hR1, hO1⟩
          replace hZ := hZ.only hO1; replace hX := hX.only hO1; replace hO := hO.trans hO1; have hR := hR1; replace hs := Nat.le_trans hs hO1.size; clear hO1 hR1
          have y0 := hX.bx.2 0 _ rfl; have y1 := hX.bx.2 1 _ rfl; have y2 := hX.bx.2 2 _ rfl; have y3 := hX.bx.2 3 _ rfl; have y4 := hX.bx.2 4 _ rfl; have y5 := hX.bx.2 5 _ rfl; have y6 := hX.bx.2 6 _ rfl; have y7 := hX.bx.2 7 _ rfl; have y8 := hX.bx.2 8 _ rfl; have y9 := hX.bx.2 9 _ rfl; have y10 := hX.bx.2 10 _ rfl; have f0 := hX.fx.2
          have z0 := hZ.bx.2 0 _ rfl; have z1 := hZ.bx.2 1 _ rfl; have z2 := hZ.bx.2 2 _ rfl; have z3 := hZ.bx.2 3 _ rfl; have z4 := hZ.bx.2 4 _ rfl; have z5 := hZ.bx.2 5 _ rfl; have z6 := hZ.bx.2 6 _ rfl; have z7 := hZ.bx.2 7 _ rfl; have z8 := hZ.bx.2 8 _ rfl; have z9 := hZ.bx.2 9 _ rfl; have z10 := hZ.bx.2 10 _ rfl; have fz := hZ.fx.2
          have hn1 : ¬ (g = w.heap.size) := by omega
          have hn2 : ¬ (w.heap.size = g) := by omega
          have hKr : ∀ W, Below w.heap.size u39 W → RdI W b C len cap ∧ Only b w W := fun W h => ⟨hR.kept (h.mono (by omega)), hO.beyond (Nat.le_refl _) h⟩
          have hB0 := Below.refl w.heap.size u39
          have hsz : w.heap.size < u39.heap.size := by omega
          go_wp2
          refine bodyPost_ret (v := .agg #[.int .i64 x0, .int .i64 x1, .bool q9, .bool true, .int .i64 yo, .int .i64 x5, .int .i64 x6, .int .i64 x7, .int .i64 x8, .string x9, .string tx]) ?_ rfl ⟨⟨x0, x1, q9, true, yo, x5, x6, x7, x8, x9, tx⟩, rfl, ?_, ?_, ?_, ?_⟩
          · simp [results, Try.results38, go_sem, z0, z1, z2, z3, z4, z5, z6, z7, z8, z9, z10]
          · dsimp only; omega
          · dsimp only; omega
          · refine (hKr _ ?_).1
            go_grown
          · refine (hKr _ ?_).2
            go_grown
end Go.Proofs.Ytgfpoohjbgdcpaa
