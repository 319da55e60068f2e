/-
  The draws of datagrams, changed or not.
-/
import Derived.Test.YtgfpoohjbgdcpaaDrip
namespace Go.Proofs.Ytgfpoohjbgdcpaa
open Go.RowKit Go.PlainAid
set_option maxRecDepth 100000 in
set_option maxHeartbeats 64000000 in
theorem r_hurtIp (b : Nat) (C : Option Addr) (len cap : Nat) (p : IpV) (w : World) (hdz : p.data.size ≤ 65600) (hoz : p.opts.size ≤ 44) (h : RdI w b C len cap) :
    Calls Try.prog 37 #[.pointer (some ⟨b, 0, none⟩), .agg (ipL p)] w fun e w' => ∃ p : IpV, e = .returned (.agg (ipL p)) ∧ p.data.size ≤ 65600 ∧ p.opts.size ≤ 50 ∧ RdI w' b C len cap ∧ Only b w w' := by
  have hbw := h.lt
  obtain ⟨tos, id, df, mf, off, ttl, pro, src, dst, opts, data⟩ := p
  simp only [ipL] at *
  have hX : OI b w.heap.size (w.alloc (.cells #[.int .i64 tos, .int .i64 id, .bool df, .bool mf, .int .i64 off, .int .i64 ttl, .int .i64 pro, .int .i64 src, .int .i64 dst, .string opts, .string data] 28)) w.heap.size [.int .i64 tos, .int .i64 id, .bool df, .bool mf, .int .i64 off, .int .i64 ttl, .int .i64 pro, .int .i64 src, .int .i64 dst, .string opts, .string data] := OI.new hbw (Nat.le_refl _)
  have hZ : OI b w.heap.size ((w.alloc (.cells #[.int .i64 tos, .int .i64 id, .bool df, .bool mf, .int .i64 off, .int .i64 ttl, .int .i64 pro, .int .i64 src, .int .i64 dst, .string opts, .string data] 28)).alloc (.cells zerI.toArray 28)) (w.heap.size + 1) zerI := by
    have := OI.new (b := b) (B := w.heap.size) (u := w.alloc (.cells #[.int .i64 tos, .int .i64 id, .bool df, .bool mf, .int .i64 off, .int .i64 ttl, .int .i64 pro, .int .i64 src, .int .i64 dst, .string opts, .string data] 28)) (A := zerI.toArray) (T := 28) (by simp; omega) (by simp)
    simpa using this
  replace hX := hX.only ((Only.refl b _).alloc (.cells zerI.toArray 28))
  have hR := (h.alloc (.cells #[.int .i64 tos, .int .i64 id, .bool df, .bool mf, .int .i64 off, .int .i64 ttl, .int .i64 pro, .int .i64 src, .int .i64 dst, .string opts, .string data] 28)).alloc (.cells zerI.toArray 28)
  have hO : Only b w ((w.alloc (.cells #[.int .i64 tos, .int .i64 id, .bool df, .bool mf, .int .i64 off, .int .i64 ttl, .int .i64 pro, .int .i64 src, .int .i64 dst, .string opts, .string data] 28)).alloc (.cells zerI.toArray 28)) := ((Only.refl b w).alloc _).alloc _
  have hs : w.heap.size + 2 ≤ ((w.alloc (.cells #[.int .i64 tos, .int .i64 id, .bool df, .bool mf, .int .i64 off, .int .i64 ttl, .int .i64 pro, .int .i64 src, .int .i64 dst, .string opts, .string data] 28)).alloc (.cells zerI.toArray 28)).heap.size := by simp
  clear h
  go_enter Try.func37, Try.ntmps37
  go_wp2_with fail
  generalize hW0 : (w.alloc _).alloc _ = w0 at *
  clear hW0
  refine (r_below b C len cap _ _ (by omega) hR).mono ?_
  rintro e u ⟨y, rfl, hy0, hy1, hR1, hO1⟩
  replace hZ := hZ.only hO1; replace hX := hX.only hO1; replace hO := hO.trans hO1; replace hR := hR1; replace hs := Nat.le_trans hs hO1.size; clear hO1 hR1
  have hy : y = 0 ∨ y = 1 ∨ y = 2 ∨ y = 3 ∨ y = 4 ∨ y = 5 ∨ 5 < y := by omega
  clear hy0 hy1
  rcases hy with rfl | rfl | rfl | rfl | rfl | rfl | hy
  · skip
    go_wp2_with fail
    refine (r_off b C len cap _ _ _ (by omega) (by omega) (by omega) (by omega) hR).mono ?_
    rintro e u1 ⟨z, rfl, hz0, hz1, hR1, hO1⟩
    replace hZ := hZ.only hO1; replace hX := hX.only hO1; replace hO := hO.trans hO1; replace hR := hR1; replace hs := Nat.le_trans hs hO1.size; clear hO1 hR1
    have y0 := hX.bx.2 0 _ rfl; have y1 := hX.bx.2 1 _ rfl; have y2 := hX.bx.2 2 _ rfl; have y3 := hX.bx.2 3 _ rfl; have y4 := hX.bx.2 4 _ rfl; have y5 := hX.bx.2 5 _ rfl; have y6 := hX.bx.2 6 _ rfl; have y7 := hX.bx.2 7 _ rfl; have y8 := hX.bx.2 8 _ rfl; have y9 := hX.bx.2 9 _ rfl; have y10 := hX.bx.2 10 _ rfl; have z0 := hZ.bx.2 0 _ rfl; have z1 := hZ.bx.2 1 _ rfl; have z2 := hZ.bx.2 2 _ rfl; have z3 := hZ.bx.2 3 _ rfl; have z4 := hZ.bx.2 4 _ rfl; have z5 := hZ.bx.2 5 _ rfl; have z6 := hZ.bx.2 6 _ rfl; have z7 := hZ.bx.2 7 _ rfl; have z8 := hZ.bx.2 8 _ rfl; have z9 := hZ.bx.2 9 _ rfl; have z10 := hZ.bx.2 10 _ rfl; have f0 := hX.fx.2; have fz := hZ.fx.2; have hn1 : ¬ (w.heap.size = w.heap.size + 1) := (by omega); have hn2 : ¬ (w.heap.size + 1 = w.heap.size) := (by omega); have hKr : ∀ W, Below w.heap.size u1 W → RdI W b C len cap ∧ Only b w W := (fun W h => ⟨hR.kept (h.mono (by omega)), hO.beyond (Nat.le_refl _) h⟩); have hB0 := Below.refl w.heap.size u1; have hsz : w.heap.size + 1 < u1.heap.size := (by omega)
    go_wp2
    refine bodyPost_ret (v := .agg #[.int .i64 z, .int .i64 id, .bool df, .bool mf, .int .i64 off, .int .i64 ttl, .int .i64 pro, .int .i64 src, .int .i64 dst, .string opts, .string data]) ?_ rfl ⟨⟨(z), (id), (df), (mf), (off), (ttl), (pro), (src), (dst), (opts), (data)⟩, rfl, ?_, ?_, ?_, ?_⟩
    · simp [results, Try.results37, go_sem, z0, z1, z2, z3, z4, z5, z6, z7, z8, z9, z10]
    · dsimp only; omega
    · dsimp only; omega
    · refine (hKr _ ?_).1
      go_grown
    · refine (hKr _ ?_).2
      go_grown
  · skip
    go_wp2_with fail
    refine (r_off b C len cap _ _ _ (by omega) (by omega) (by omega) (by omega) hR).mono ?_
    rintro e u1 ⟨z, rfl, hz0, hz1, hR1, hO1⟩
    replace hZ := hZ.only hO1; replace hX := hX.only hO1; replace hO := hO.trans hO1; replace hR := hR1; replace hs := Nat.le_trans hs hO1.size; clear hO1 hR1
    have y0 := hX.bx.2 0 _ rfl; have y1 := hX.bx.2 1 _ rfl; have y2 := hX.bx.2 2 _ rfl; have y3 := hX.bx.2 3 _ rfl; have y4 := hX.bx.2 4 _ rfl; have y5 := hX.bx.2 5 _ rfl; have y6 := hX.bx.2 6 _ rfl; have y7 := hX.bx.2 7 _ rfl; have y8 := hX.bx.2 8 _ rfl; have y9 := hX.bx.2 9 _ rfl; have y10 := hX.bx.2 10 _ rfl; have z0 := hZ.bx.2 0 _ rfl; have z1 := hZ.bx.2 1 _ rfl; have z2 := hZ.bx.2 2 _ rfl; have z3 := hZ.bx.2 3 _ rfl; have z4 := hZ.bx.2 4 _ rfl; have z5 := hZ.bx.2 5 _ rfl; have z6 := hZ.bx.2 6 _ rfl; have z7 := hZ.bx.2 7 _ rfl; have z8 := hZ.bx.2 8 _ rfl; have z9 := hZ.bx.2 9 _ rfl; have z10 := hZ.bx.2 10 _ rfl; have f0 := hX.fx.2; have fz := hZ.fx.2; have hn1 : ¬ (w.heap.size = w.heap.size + 1) := (by omega); have hn2 : ¬ (w.heap.size + 1 = w.heap.size) := (by omega); have hKr : ∀ W, Below w.heap.size u1 W → RdI W b C len cap ∧ Only b w W := (fun W h => ⟨hR.kept (h.mono (by omega)), hO.beyond (Nat.le_refl _) h⟩); have hB0 := Below.refl w.heap.size u1; have hsz : w.heap.size + 1 < u1.heap.size := (by omega)
    go_wp2
    refine bodyPost_ret (v := .agg #[.int .i64 tos, .int .i64 id, .bool df, .bool mf, .int .i64 z, .int .i64 ttl, .int .i64 pro, .int .i64 src, .int .i64 dst, .string opts, .string data]) ?_ rfl ⟨⟨(tos), (id), (df), (mf), (z), (ttl), (pro), (src), (dst), (opts), (data)⟩, rfl, ?_, ?_, ?_, ?_⟩
    · simp [results, Try.results37, go_sem, z0, z1, z2, z3, z4, z5, z6, z7, z8, z9, z10]
    · dsimp only; omega
    · dsimp only; omega
    · refine (hKr _ ?_).1
      go_grown
    · refine (hKr _ ?_).2
      go_grown
  · skip
    cases mf
    · skip
      have y0 := hX.bx.2 0 _ rfl; have y1 := hX.bx.2 1 _ rfl; have y2 := hX.bx.2 2 _ rfl; have y3 := hX.bx.2 3 _ rfl; have y4 := hX.bx.2 4 _ rfl; have y5 := hX.bx.2 5 _ rfl; have y6 := hX.bx.2 6 _ rfl; have y7 := hX.bx.2 7 _ rfl; have y8 := hX.bx.2 8 _ rfl; have y9 := hX.bx.2 9 _ rfl; have y10 := hX.bx.2 10 _ rfl; have z0 := hZ.bx.2 0 _ rfl; have z1 := hZ.bx.2 1 _ rfl; have z2 := hZ.bx.2 2 _ rfl; have z3 := hZ.bx.2 3 _ rfl; have z4 := hZ.bx.2 4 _ rfl; have z5 := hZ.bx.2 5 _ rfl; have z6 := hZ.bx.2 6 _ rfl; have z7 := hZ.bx.2 7 _ rfl; have z8 := hZ.bx.2 8 _ rfl; have z9 := hZ.bx.2 9 _ rfl; have z10 := hZ.bx.2 10 _ rfl; have f0 := hX.fx.2; have fz := hZ.fx.2; have hn1 : ¬ (w.heap.size = w.heap.size + 1) := (by omega); have hn2 : ¬ (w.heap.size + 1 = w.heap.size) := (by omega); have hKr : ∀ W, Below w.heap.size u W → RdI W b C len cap ∧ Only b w W := (fun W h => ⟨hR.kept (h.mono (by omega)), hO.beyond (Nat.le_refl _) h⟩); have hB0 := Below.refl w.heap.size u; have hsz : w.heap.size + 1 < u.heap.size := (by omega)
      go_wp2
      refine bodyPost_ret (v := .agg #[.int .i64 tos, .int .i64 id, .bool df, .bool true, .int .i64 off, .int .i64 ttl, .int .i64 pro, .int .i64 src, .int .i64 dst, .string opts, .string data]) ?_ rfl ⟨⟨(tos), (id), (df), (true), (off), (ttl), (pro), (src), (dst), (opts), (data)⟩, rfl, ?_, ?_, ?_, ?_⟩
      · simp [results, Try.results37, go_sem, z0, z1, z2, z3, z4, z5, z6, z7, z8, z9, z10]
      · dsimp only; omega
      · dsimp only; omega
      · refine (hKr _ ?_).1
        go_grown
      · refine (hKr _ ?_).2
        go_grown
    · skip
      have y0 := hX.bx.2 0 _ rfl; have y1 := hX.bx.2 1 _ rfl; have y2 := hX.bx.2 2 _ rfl; have y3 := hX.bx.2 3 _ rfl; have y4 := hX.bx.2 4 _ rfl; have y5 := hX.bx.2 5 _ rfl; have y6 := hX.bx.2 6 _ rfl; have y7 := hX.bx.2 7 _ rfl; have y8 := hX.bx.2 8 _ rfl; have y9 := hX.bx.2 9 _ rfl; have y10 := hX.bx.2 10 _ rfl; have z0 := hZ.bx.2 0 _ rfl; have z1 := hZ.bx.2 1 _ rfl; have z2 := hZ.bx.2 2 _ rfl; have z3 := hZ.bx.2 3 _ rfl; have z4 := hZ.bx.2 4 _ rfl; have z5 := hZ.bx.2 5 _ rfl; have z6 := hZ.bx.2 6 _ rfl; have z7 := hZ.bx.2 7 _ rfl; have z8 := hZ.bx.2 8 _ rfl; have z9 := hZ.bx.2 9 _ rfl; have z10 := hZ.bx.2 10 _ rfl; have f0 := hX.fx.2; have fz := hZ.fx.2; have hn1 : ¬ (w.heap.size = w.heap.size + 1) := (by omega); have hn2 : ¬ (w.heap.size + 1 = w.heap.size) := (by omega); have hKr : ∀ W, Below w.heap.size u W → RdI W b C len cap ∧ Only b w W := (fun W h => ⟨hR.kept (h.mono (by omega)), hO.beyond (Nat.le_refl _) h⟩); have hB0 := Below.refl w.heap.size u; have hsz : w.heap.size + 1 < u.heap.size := (by omega)
      go_wp2
      refine bodyPost_ret (v := .agg #[.int .i64 tos, .int .i64 id, .bool df, .bool false, .int .i64 off, .int .i64 ttl, .int .i64 pro, .int .i64 src, .int .i64 dst, .string opts, .string data]) ?_ rfl ⟨⟨(tos), (id), (df), (false), (off), (ttl), (pro), (src), (dst), (opts), (data)⟩, rfl, ?_, ?_, ?_, ?_⟩
      · simp [results, Try.results37, go_sem, z0, z1, z2, z3, z4, z5, z6, z7, z8, z9, z10]
      · dsimp only; omega
      · dsimp only; omega
      · refine (hKr _ ?_).1
        go_grown
      · refine (hKr _ ?_).2
        go_grown
  · skip
    have hbig : ¬ 9223372036854775807 < opts.size + 1 := by omega
    have hos : (opts ++ (⟨#[1]⟩ : ByteArray)).size = opts.size + 1 := by simp; rfl
    have y0 := hX.bx.2 0 _ rfl; have y1 := hX.bx.2 1 _ rfl; have y2 := hX.bx.2 2 _ rfl; have y3 := hX.bx.2 3 _ rfl; have y4 := hX.bx.2 4 _ rfl; have y5 := hX.bx.2 5 _ rfl; have y6 := hX.bx.2 6 _ rfl; have y7 := hX.bx.2 7 _ rfl; have y8 := hX.bx.2 8 _ rfl; have y9 := hX.bx.2 9 _ rfl; have y10 := hX.bx.2 10 _ rfl; have z0 := hZ.bx.2 0 _ rfl; have z1 := hZ.bx.2 1 _ rfl; have z2 := hZ.bx.2 2 _ rfl; have z3 := hZ.bx.2 3 _ rfl; have z4 := hZ.bx.2 4 _ rfl; have z5 := hZ.bx.2 5 _ rfl; have z6 := hZ.bx.2 6 _ rfl; have z7 := hZ.bx.2 7 _ rfl; have z8 := hZ.bx.2 8 _ rfl; have z9 := hZ.bx.2 9 _ rfl; have z10 := hZ.bx.2 10 _ rfl; have f0 := hX.fx.2; have fz := hZ.fx.2; have hn1 : ¬ (w.heap.size = w.heap.size + 1) := (by omega); have hn2 : ¬ (w.heap.size + 1 = w.heap.size) := (by omega); have hKr : ∀ W, Below w.heap.size u W → RdI W b C len cap ∧ Only b w W := (fun W h => ⟨hR.kept (h.mono (by omega)), hO.beyond (Nat.le_refl _) h⟩); have hB0 := Below.refl w.heap.size u; have hsz : w.heap.size + 1 < u.heap.size := (by omega)
    go_wp2
    refine bodyPost_ret (v := .agg #[.int .i64 tos, .int .i64 id, .bool df, .bool mf, .int .i64 off, .int .i64 ttl, .int .i64 pro, .int .i64 src, .int .i64 dst, .string (opts ++ ⟨#[1]⟩), .string data]) ?_ rfl ⟨⟨(tos), (id), (df), (mf), (off), (ttl), (pro), (src), (dst), ((opts ++ ⟨#[1]⟩)), (data)⟩, rfl, ?_, ?_, ?_, ?_⟩
    · simp [results, Try.results37, go_sem, z0, z1, z2, z3, z4, z5, z6, z7, z8, z9, z10]
    · dsimp only; omega
    · dsimp only; omega
    · refine (hKr _ ?_).1
      go_grown
    · refine (hKr _ ?_).2
      go_grown
  · skip
    go_wp2_with fail
    refine (r_off b C len cap _ _ _ (by omega) (by omega) (by omega) (by omega) hR).mono ?_
    rintro e u1 ⟨z, rfl, hz0, hz1, hR1, hO1⟩
    replace hZ := hZ.only hO1; replace hX := hX.only hO1; replace hO := hO.trans hO1; replace hR := hR1; replace hs := Nat.le_trans hs hO1.size; clear hO1 hR1
    have y0 := hX.bx.2 0 _ rfl; have y1 := hX.bx.2 1 _ rfl; have y2 := hX.bx.2 2 _ rfl; have y3 := hX.bx.2 3 _ rfl; have y4 := hX.bx.2 4 _ rfl; have y5 := hX.bx.2 5 _ rfl; have y6 := hX.bx.2 6 _ rfl; have y7 := hX.bx.2 7 _ rfl; have y8 := hX.bx.2 8 _ rfl; have y9 := hX.bx.2 9 _ rfl; have y10 := hX.bx.2 10 _ rfl; have z0 := hZ.bx.2 0 _ rfl; have z1 := hZ.bx.2 1 _ rfl; have z2 := hZ.bx.2 2 _ rfl; have z3 := hZ.bx.2 3 _ rfl; have z4 := hZ.bx.2 4 _ rfl; have z5 := hZ.bx.2 5 _ rfl; have z6 := hZ.bx.2 6 _ rfl; have z7 := hZ.bx.2 7 _ rfl; have z8 := hZ.bx.2 8 _ rfl; have z9 := hZ.bx.2 9 _ rfl; have z10 := hZ.bx.2 10 _ rfl; have f0 := hX.fx.2; have fz := hZ.fx.2; have hn1 : ¬ (w.heap.size = w.heap.size + 1) := (by omega); have hn2 : ¬ (w.heap.size + 1 = w.heap.size) := (by omega); have hKr : ∀ W, Below w.heap.size u1 W → RdI W b C len cap ∧ Only b w W := (fun W h => ⟨hR.kept (h.mono (by omega)), hO.beyond (Nat.le_refl _) h⟩); have hB0 := Below.refl w.heap.size u1; have hsz : w.heap.size + 1 < u1.heap.size := (by omega)
    go_wp2
    refine bodyPost_ret (v := .agg #[.int .i64 tos, .int .i64 id, .bool df, .bool mf, .int .i64 off, .int .i64 ttl, .int .i64 pro, .int .i64 src, .int .i64 z, .string opts, .string data]) ?_ rfl ⟨⟨(tos), (id), (df), (mf), (off), (ttl), (pro), (src), (z), (opts), (data)⟩, rfl, ?_, ?_, ?_, ?_⟩
    · simp [results, Try.results37, go_sem, z0, z1, z2, z3, z4, z5, z6, z7, z8, z9, z10]
    · dsimp only; omega
    · dsimp only; omega
    · refine (hKr _ ?_).1
      go_grown
    · refine (hKr _ ?_).2
      go_grown
  · skip
    go_wp2_with fail
    refine (r_below b C len cap _ _ (by omega) hR).mono ?_
    rintro e u1 ⟨m, rfl, hm0, hm1, hR1, hO1⟩
    replace hZ := hZ.only hO1; replace hX := hX.only hO1; replace hO := hO.trans hO1; replace hR := hR1; replace hs := Nat.le_trans hs hO1.size; clear hO1 hR1
    obtain ⟨M, rfl⟩ := Int.eq_ofNat_of_zero_le hm0
    have hw1 : IntKind.i64.wrap (4 * (M : Int)) = 4 * (M : Int) := wraps_i64 _ (by omega) (by omega)
    have hw2 : IntKind.i64.wrap (40 + 4 * (M : Int)) = ((40 + 4 * M : Nat) : Int) := (wraps_i64 _ (by omega) (by omega)).trans (by omega)
    have hgl2 := hR.lt
    go_wp2_with (at_make; refine wpList_make_bytes rfl _ _ rfl _ _ _ _ (40 + 4 * M) rfl rfl (by omega) (by omega) (by omega) ?_; intro u2 hownB hbC; have hrl : (List.replicate (40 + 4 * M) (0 : UInt8)).length ≤ 44 := (by rw [List.length_replicate]; omega); generalize List.replicate (40 + 4 * M) (0 : UInt8) = rl at hownB hrl; replace hX := hX.below hbC; replace hZ := hZ.below hbC; have hR := hR.far hbC; replace hO := hO.far hbC; replace hs := Nat.le_trans hs hbC.size; have hstr := run_string_own hownB; have y0 := hX.bx.2 0 _ rfl; have y1 := hX.bx.2 1 _ rfl; have y2 := hX.bx.2 2 _ rfl; have y3 := hX.bx.2 3 _ rfl; have y4 := hX.bx.2 4 _ rfl; have y5 := hX.bx.2 5 _ rfl; have y6 := hX.bx.2 6 _ rfl; have y7 := hX.bx.2 7 _ rfl; have y8 := hX.bx.2 8 _ rfl; have y9 := hX.bx.2 9 _ rfl; have y10 := hX.bx.2 10 _ rfl; have z0 := hZ.bx.2 0 _ rfl; have z1 := hZ.bx.2 1 _ rfl; have z2 := hZ.bx.2 2 _ rfl; have z3 := hZ.bx.2 3 _ rfl; have z4 := hZ.bx.2 4 _ rfl; have z5 := hZ.bx.2 5 _ rfl; have z6 := hZ.bx.2 6 _ rfl; have z7 := hZ.bx.2 7 _ rfl; have z8 := hZ.bx.2 8 _ rfl; have z9 := hZ.bx.2 9 _ rfl; have z10 := hZ.bx.2 10 _ rfl; have f0 := hX.fx.2; have fz := hZ.fx.2; have hn1 : ¬ (w.heap.size = w.heap.size + 1) := (by omega); have hn2 : ¬ (w.heap.size + 1 = w.heap.size) := (by omega); have hKr : ∀ W, Below w.heap.size u2 W → RdI W b C len cap ∧ Only b w W := (fun W h => ⟨hR.kept (h.mono (by omega)), hO.beyond (Nat.le_refl _) h⟩); have hB0 := Below.refl w.heap.size u2; have hsz : w.heap.size + 1 < u2.heap.size := (by omega))
    have hds : (str rl).size ≤ 44 := by rw [str_size]; exact hrl
    refine bodyPost_ret (v := .agg #[.int .i64 tos, .int .i64 id, .bool df, .bool mf, .int .i64 off, .int .i64 ttl, .int .i64 pro, .int .i64 src, .int .i64 dst, .string (str rl), .string data]) ?_ rfl ⟨⟨(tos), (id), (df), (mf), (off), (ttl), (pro), (src), (dst), ((str rl)), (data)⟩, rfl, ?_, ?_, ?_, ?_⟩
    · simp [results, Try.results37, go_sem, z0, z1, z2, z3, z4, z5, z6, z7, z8, z9, z10]
    · dsimp only; omega
    · dsimp only; omega
    · refine (hKr _ ?_).1
      go_grown
    · refine (hKr _ ?_).2
      go_grown
  · skip
    have k0 : (y == 0) = false := by simp; omega
    have k1 : (y == 1) = false := by simp; omega
    have k2 : (y == 2) = false := by simp; omega
    have k3 : (y == 3) = false := by simp; omega
    have k4 : (y == 4) = false := by simp; omega
    have k5 : (y == 5) = false := by simp; omega
    have y0 := hX.bx.2 0 _ rfl; have y1 := hX.bx.2 1 _ rfl; have y2 := hX.bx.2 2 _ rfl; have y3 := hX.bx.2 3 _ rfl; have y4 := hX.bx.2 4 _ rfl; have y5 := hX.bx.2 5 _ rfl; have y6 := hX.bx.2 6 _ rfl; have y7 := hX.bx.2 7 _ rfl; have y8 := hX.bx.2 8 _ rfl; have y9 := hX.bx.2 9 _ rfl; have y10 := hX.bx.2 10 _ rfl; have z0 := hZ.bx.2 0 _ rfl; have z1 := hZ.bx.2 1 _ rfl; have z2 := hZ.bx.2 2 _ rfl; have z3 := hZ.bx.2 3 _ rfl; have z4 := hZ.bx.2 4 _ rfl; have z5 := hZ.bx.2 5 _ rfl; have z6 := hZ.bx.2 6 _ rfl; have z7 := hZ.bx.2 7 _ rfl; have z8 := hZ.bx.2 8 _ rfl; have z9 := hZ.bx.2 9 _ rfl; have z10 := hZ.bx.2 10 _ rfl; have f0 := hX.fx.2; have fz := hZ.fx.2; have hn1 : ¬ (w.heap.size = w.heap.size + 1) := (by omega); have hn2 : ¬ (w.heap.size + 1 = w.heap.size) := (by omega); have hKr : ∀ W, Below w.heap.size u W → RdI W b C len cap ∧ Only b w W := (fun W h => ⟨hR.kept (h.mono (by omega)), hO.beyond (Nat.le_refl _) h⟩); have hB0 := Below.refl w.heap.size u; have hsz : w.heap.size + 1 < u.heap.size := (by omega)
    go_wp2
    refine bodyPost_ret (v := .agg #[.int .i64 tos, .int .i64 id, .bool df, .bool mf, .int .i64 off, .int .i64 ttl, .int .i64 pro, .int .i64 src, .int .i64 dst, .string opts, .string data]) ?_ rfl ⟨⟨(tos), (id), (df), (mf), (off), (ttl), (pro), (src), (dst), (opts), (data)⟩, rfl, ?_, ?_, ?_, ?_⟩
    · simp [results, Try.results37, go_sem, z0, z1, z2, z3, z4, z5, z6, z7, z8, z9, z10]
    · dsimp only; omega
    · dsimp only; omega
    · refine (hKr _ ?_).1
      go_grown
    · refine (hKr _ ?_).2
      go_grown
end Go.Proofs.Ytgfpoohjbgdcpaa
