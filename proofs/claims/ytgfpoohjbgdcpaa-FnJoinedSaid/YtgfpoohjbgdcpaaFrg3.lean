/-
  The pieces of a datagram: what the program's iterator calls.
-/
import Derived.Test.YtgfpoohjbgdcpaaFrg1
import Derived.Test.YtgfpoohjbgdcpaaClone
import Derived.Test.YtgfpoohjbgdcpaaRfl
import Derived.Lib.QuietBelowIn
namespace Go.Proofs.Ytgfpoohjbgdcpaa
open Go.RowKit Go.PlainAid Go.Shelf Go.Sort
theorem wpIn_region_below {F : Fence} {n : Nat} {id : Nat} {Q : Exit → Act → World → Prop} {a : Act} {w : World} {l : List Oper} (hro : F.round = none) (hm : Try.prog.follows .mixedOrders = true) (hB : Region.lexB .any l.toArray = true)
    (h : wpQuietIn F n Try.prog l.toArray (fun w' => ∃ u : BW w, w' = u.u) (fun a' => ∀ w', (∃ u : BW w, w' = u.u) → Q .normal a' w') l a) : (Code.region id l.toArray true).wpIn F n Try.prog Q a w :=
  wpIn_region_quiet (C := fun w' => ∃ u : BW w, w' = u.u) hro hm hB ⟨⟨w.drew, (Below.refl _ _).drew⟩, rfl⟩ (by simpa using h)
theorem i_isMtu (n : Int) (w : World) : Calls Try.prog 30 #[.int .i64 n] w fun e w' => e = .returned (.bool (inB n 68 65535)) ∧ w' = w := by
  have hc : n < 68 ∨ 68 ≤ n ∧ n ≤ 65535 ∨ 68 ≤ n ∧ 65535 < n := by omega
  rcases hc with hc | ⟨h1, h2⟩ | ⟨h1, h2⟩
  all_goals
    go_enter Try.func30, Try.ntmps30
    go_wp2
    go_ret
    exact ⟨ret_bool (by unfold inB; rw [Bool.eq_iff_iff]; simp <;> omega), rfl⟩
set_option maxRecDepth 100000 in
set_option maxHeartbeats 1600000 in
theorem i_ipSize (p : IpV) (w : World) (ho : p.opts.size ≤ 1099511627776) (hd : p.data.size ≤ 1099511627776) :
    Calls Try.prog 31 #[.agg (ipL p)] w fun e w' => e = .returned (.int .i64 (frSize p)) ∧ Below w.heap.size w w' := by
  have CH : Hid (∀ u : World, Calls Try.prog 55 #[.agg (ipL p)] u fun e w' => e = .returned (.int .i64 (20 + (p.opts.size : Int))) ∧ Below u.heap.size u w') := fun u => (i_headSize p u ho).mono fun _ _ ⟨he, hw⟩ => ⟨he, hw ▸ (Below.refl _ _).alloc (Nat.le_refl _) _⟩
  have hP := Bx.new w (ipL p) 28
  have hB := (Below.refl w.heap.size w).alloc (Nat.le_refl _) (.cells (ipL p) 28)
  simp only [ipL] at CH hP hB ⊢
  go_enter Try.func31, Try.ntmps31
  go_wp2_with fail
  generalize hW : w.alloc _ = w1 at *
  clear hW
  have hne := BW.some w1
  have a0 := fun u : BW w1 => (hP.ofBW u).2 0 _ rfl; have a1 := fun u : BW w1 => (hP.ofBW u).2 1 _ rfl; have a2 := fun u : BW w1 => (hP.ofBW u).2 2 _ rfl; have a3 := fun u : BW w1 => (hP.ofBW u).2 3 _ rfl; have a4 := fun u : BW w1 => (hP.ofBW u).2 4 _ rfl; have a5 := fun u : BW w1 => (hP.ofBW u).2 5 _ rfl; have a6 := fun u : BW w1 => (hP.ofBW u).2 6 _ rfl; have a7 := fun u : BW w1 => (hP.ofBW u).2 7 _ rfl; have a8 := fun u : BW w1 => (hP.ofBW u).2 8 _ rfl; have a9 := fun u : BW w1 => (hP.ofBW u).2 9 _ rfl; have a10 := fun u : BW w1 => (hP.ofBW u).2 10 _ rfl
  refine wp_region_below (by kernel_rfl) (by kernel_rfl) ?_
  repeat (go_big_quiet_step (first | (go_at_call 55; exact Calls.into (CH.out _))))
  refine wpQuiet_nil ?_
  intro _ hw'
  obtain ⟨u, hw''⟩ := hw'
  subst hw''
  clear a0 a1 a2 a3 a4 a5 a6 a7 a8 a9 a10 hne
  go_wp2
  go_ret
  exact ⟨rfl, hB.trans (u.le.mono hB.size)⟩
theorem Bx.othF {W : World} {b : Nat} {vs : List Value} (h : Bx W b vs) {c j : Nat} (hc : ¬ c = b) (u : Value) : Bx (W.setCell ⟨c, j, none⟩ u) b vs :=
  ⟨by simpa using h.1, fun i v hi => (World.cell?_setCell_other _ _ _ _ (fun k => hc (congrArg Addr.block k))).trans (h.2 i v hi)⟩
set_option maxRecDepth 100000 in
set_option maxHeartbeats 1600000 in
theorem i_ownIp (p : IpV) (w : World) (ho : p.opts.size ≤ 1099511627776) (hd : p.data.size ≤ 1099511627776) :
    Calls Try.prog 58 #[.agg (ipL p)] w fun e w' => e = .returned (.agg (ipL p)) ∧ Below w.heap.size w w' := by
  have C1 : Hid (∀ u : World, Calls Try.prog 48 #[.string p.opts] u fun e w' => e = .returned (.string p.opts) ∧ Below u.heap.size u w') := fun u => c_Clone _ u ho
  have C2 : Hid (∀ u : World, Calls Try.prog 48 #[.string p.data] u fun e w' => e = .returned (.string p.data) ∧ Below u.heap.size u w') := fun u => c_Clone _ u hd
  have hP := Bx.new w (ipL p) 28
  have hPF := Fx.new w (ipL p) 28
  have hB := (Below.refl w.heap.size w).alloc (Nat.le_refl _) (.cells (ipL p) 28)
  simp only [ipL] at hP hPF hB ⊢
  have hR := Bx.new (w.alloc (.cells #[.int .i64 p.tos, .int .i64 p.id, .bool p.df, .bool p.mf, .int .i64 p.off, .int .i64 p.ttl, .int .i64 p.pro, .int .i64 p.src, .int .i64 p.dst, .string p.opts, .string p.data] 28)) #[.int .i64 0, .int .i64 0, .bool false, .bool false, .int .i64 0, .int .i64 0, .int .i64 0, .int .i64 0, .int .i64 0, .string ⟨#[]⟩, .string ⟨#[]⟩] 28
  have hRF := Fx.new (w.alloc (.cells #[.int .i64 p.tos, .int .i64 p.id, .bool p.df, .bool p.mf, .int .i64 p.off, .int .i64 p.ttl, .int .i64 p.pro, .int .i64 p.src, .int .i64 p.dst, .string p.opts, .string p.data] 28)) #[.int .i64 0, .int .i64 0, .bool false, .bool false, .int .i64 0, .int .i64 0, .int .i64 0, .int .i64 0, .int .i64 0, .string ⟨#[]⟩, .string ⟨#[]⟩] 28
  have hal := (Below.refl (w.alloc (.cells #[.int .i64 p.tos, .int .i64 p.id, .bool p.df, .bool p.mf, .int .i64 p.off, .int .i64 p.ttl, .int .i64 p.pro, .int .i64 p.src, .int .i64 p.dst, .string p.opts, .string p.data] 28)).heap.size (w.alloc (.cells #[.int .i64 p.tos, .int .i64 p.id, .bool p.df, .bool p.mf, .int .i64 p.off, .int .i64 p.ttl, .int .i64 p.pro, .int .i64 p.src, .int .i64 p.dst, .string p.opts, .string p.data] 28))).alloc (Nat.le_refl _) (.cells #[.int .i64 0, .int .i64 0, .bool false, .bool false, .int .i64 0, .int .i64 0, .int .i64 0, .int .i64 0, .int .i64 0, .string ⟨#[]⟩, .string ⟨#[]⟩] 28)
  replace hP := hP.below hal
  replace hPF := hPF.below hal
  replace hB := hB.trans (hal.mono hB.size)
  rw [World.size_alloc] at hR hRF
  clear hal
  go_enter Try.func58, Try.ntmps58
  go_wp2_with fail
  refine (C1.out _).mono ?_
  rintro e w1 ⟨rfl, hb⟩
  replace hP := hP.below hb; replace hPF := hPF.below hb; replace hR := hR.below hb; replace hRF := hRF.below hb; replace hB := hB.trans (hb.mono hB.size)
  clear hb C1
  have p9 := hP.2 9 _ rfl; have f9 := hPF.2 9
  have hP2 : Bx (w1.setCell ⟨w.heap.size, 9, none⟩ (.string p.opts)) w.heap.size [.int .i64 p.tos, .int .i64 p.id, .bool p.df, .bool p.mf, .int .i64 p.off, .int .i64 p.ttl, .int .i64 p.pro, .int .i64 p.src, .int .i64 p.dst, .string p.opts, .string p.data] := hP.put 9 (.string p.opts)
  have hPF2 := hPF.put ⟨w.heap.size, 9, none⟩ (.string p.opts)
  have hR2 : Bx (w1.setCell ⟨w.heap.size, 9, none⟩ (.string p.opts)) (w.heap.size + 1) _ := Bx.othF hR (c := w.heap.size) (j := 9) (by omega) (.string p.opts)
  have hRF2 := hRF.put ⟨w.heap.size, 9, none⟩ (.string p.opts)
  have hB2 := hB.setCell (p := ⟨w.heap.size, 9, none⟩) (Nat.le_refl _) (.string p.opts)
  have p10 := hP2.2 10 _ rfl
  clear hP hPF hR hRF hB
  go_wp2_with fail
  refine (C2.out _).mono ?_
  rintro e w2 ⟨rfl, hb⟩
  replace hP := hP2.below hb; replace hPF := hPF2.below hb; replace hR := hR2.below hb; replace hRF := hRF2.below hb; replace hB := hB2.trans (hb.mono hB2.size)
  clear hb C2 p9 f9 p10 hP2 hPF2 hR2 hRF2 hB2
  have p10 := hP.2 10 _ rfl; have f10 := hPF.2 10
  have hP2 : Bx (w2.setCell ⟨w.heap.size, 10, none⟩ (.string p.data)) w.heap.size [.int .i64 p.tos, .int .i64 p.id, .bool p.df, .bool p.mf, .int .i64 p.off, .int .i64 p.ttl, .int .i64 p.pro, .int .i64 p.src, .int .i64 p.dst, .string p.opts, .string p.data] := hP.put 10 (.string p.data)
  have hR2 : Bx (w2.setCell ⟨w.heap.size, 10, none⟩ (.string p.data)) (w.heap.size + 1) _ := Bx.othF hR (c := w.heap.size) (j := 10) (by omega) (.string p.data)
  have hRF2 := hRF.put ⟨w.heap.size, 10, none⟩ (.string p.data)
  have hB2 := hB.setCell (p := ⟨w.heap.size, 10, none⟩) (Nat.le_refl _) (.string p.data)
  have a0 := hP2.2 0 _ rfl; have a1 := hP2.2 1 _ rfl; have a2 := hP2.2 2 _ rfl; have a3 := hP2.2 3 _ rfl; have a4 := hP2.2 4 _ rfl; have a5 := hP2.2 5 _ rfl; have a6 := hP2.2 6 _ rfl; have a7 := hP2.2 7 _ rfl; have a8 := hP2.2 8 _ rfl; have a9 := hP2.2 9 _ rfl; have a10 := hP2.2 10 _ rfl
  have r0 := hR2.2 0 _ rfl; have r1 := hR2.2 1 _ rfl; have r2 := hR2.2 2 _ rfl; have r3 := hR2.2 3 _ rfl; have r4 := hR2.2 4 _ rfl; have r5 := hR2.2 5 _ rfl; have r6 := hR2.2 6 _ rfl; have r7 := hR2.2 7 _ rfl; have r8 := hR2.2 8 _ rfl; have r9 := hR2.2 9 _ rfl; have r10 := hR2.2 10 _ rfl
  have g0 := hRF2.2 0; have g1 := hRF2.2 1; have g2 := hRF2.2 2; have g3 := hRF2.2 3; have g4 := hRF2.2 4; have g5 := hRF2.2 5; have g6 := hRF2.2 6; have g7 := hRF2.2 7; have g8 := hRF2.2 8; have g9 := hRF2.2 9; have g10 := hRF2.2 10
  have hRF3 := hRF2.2
  have hlt := hR2.1
  go_wp2_with fail
  have hR3 : Bx ((((((((((((w2.setCell ⟨w.heap.size, 10, none⟩ (.string p.data)).setCell ⟨w.heap.size + 1, 0, none⟩ (.int .i64 p.tos)).setCell ⟨w.heap.size + 1, 1, none⟩ (.int .i64 p.id)).setCell ⟨w.heap.size + 1, 2, none⟩ (.bool p.df)).setCell ⟨w.heap.size + 1, 3, none⟩ (.bool p.mf)).setCell ⟨w.heap.size + 1, 4, none⟩ (.int .i64 p.off)).setCell ⟨w.heap.size + 1, 5, none⟩ (.int .i64 p.ttl)).setCell ⟨w.heap.size + 1, 6, none⟩ (.int .i64 p.pro)).setCell ⟨w.heap.size + 1, 7, none⟩ (.int .i64 p.src)).setCell ⟨w.heap.size + 1, 8, none⟩ (.int .i64 p.dst)).setCell ⟨w.heap.size + 1, 9, none⟩ (.string p.opts)).setCell ⟨w.heap.size + 1, 10, none⟩ (.string p.data)) (w.heap.size + 1) [.int .i64 p.tos, .int .i64 p.id, .bool p.df, .bool p.mf, .int .i64 p.off, .int .i64 p.ttl, .int .i64 p.pro, .int .i64 p.src, .int .i64 p.dst, .string p.opts, .string p.data] := (((((((((((hR2.put 0 (.int .i64 p.tos)).put 1 (.int .i64 p.id)).put 2 (.bool p.df)).put 3 (.bool p.mf)).put 4 (.int .i64 p.off)).put 5 (.int .i64 p.ttl)).put 6 (.int .i64 p.pro)).put 7 (.int .i64 p.src)).put 8 (.int .i64 p.dst)).put 9 (.string p.opts)).put 10 (.string p.data))
  have s0 := hR3.2 0 _ rfl; have s1 := hR3.2 1 _ rfl; have s2 := hR3.2 2 _ rfl; have s3 := hR3.2 3 _ rfl; have s4 := hR3.2 4 _ rfl; have s5 := hR3.2 5 _ rfl; have s6 := hR3.2 6 _ rfl; have s7 := hR3.2 7 _ rfl; have s8 := hR3.2 8 _ rfl; have s9 := hR3.2 9 _ rfl; have s10 := hR3.2 10 _ rfl
  refine bodyPost_ret (v := .agg #[.int .i64 p.tos, .int .i64 p.id, .bool p.df, .bool p.mf, .int .i64 p.off, .int .i64 p.ttl, .int .i64 p.pro, .int .i64 p.src, .int .i64 p.dst, .string p.opts, .string p.data]) ?_ rfl ⟨rfl, (((((((((((hB2.setCell (p := ⟨w.heap.size + 1, 0, none⟩) (Nat.le_succ _) (.int .i64 p.tos)).setCell (p := ⟨w.heap.size + 1, 1, none⟩) (Nat.le_succ _) (.int .i64 p.id)).setCell (p := ⟨w.heap.size + 1, 2, none⟩) (Nat.le_succ _) (.bool p.df)).setCell (p := ⟨w.heap.size + 1, 3, none⟩) (Nat.le_succ _) (.bool p.mf)).setCell (p := ⟨w.heap.size + 1, 4, none⟩) (Nat.le_succ _) (.int .i64 p.off)).setCell (p := ⟨w.heap.size + 1, 5, none⟩) (Nat.le_succ _) (.int .i64 p.ttl)).setCell (p := ⟨w.heap.size + 1, 6, none⟩) (Nat.le_succ _) (.int .i64 p.pro)).setCell (p := ⟨w.heap.size + 1, 7, none⟩) (Nat.le_succ _) (.int .i64 p.src)).setCell (p := ⟨w.heap.size + 1, 8, none⟩) (Nat.le_succ _) (.int .i64 p.dst)).setCell (p := ⟨w.heap.size + 1, 9, none⟩) (Nat.le_succ _) (.string p.opts)).setCell (p := ⟨w.heap.size + 1, 10, none⟩) (Nat.le_succ _) (.string p.data))⟩
  clear a0 a1 a2 a3 a4 a5 a6 a7 a8 a9 a10 r0 r1 r2 r3 r4 r5 r6 r7 r8 r9 r10 hR3
  simp [results, Try.f58, go_sem, s0, s1, s2, s3, s4, s5, s6, s7, s8, s9, s10]
set_option maxRecDepth 100000 in
theorem i_piecesOf (p : IpV) (c : ByteArray) (mtu : Int) (w : World) : Calls Try.prog 33 #[.agg (ipL p), .string c, .int .i64 mtu] w fun e w' =>
    e = .returned (.func (.func 57) #[] #[.pointer (some ⟨w.heap.size, 0, none⟩), .pointer (some ⟨w.heap.size + 1 + 1, 0, none⟩), .pointer (some ⟨w.heap.size + 1, 0, none⟩)]) ∧ w' = ((w.alloc (.cells (ipL p) 28)).alloc (.cells #[.string c] 9)).alloc (.cells #[.int .i64 mtu] 2) := by
  simp only [ipL]
  go_enter Try.func33, Try.ntmps33
  go_wp2
  go_ret
  exact ⟨rfl, rfl⟩
end Go.Proofs.Ytgfpoohjbgdcpaa
