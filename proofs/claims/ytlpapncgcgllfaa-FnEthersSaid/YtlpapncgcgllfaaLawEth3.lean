/-
  The walk of the law FnEthers.
-/
import Derived.Test.YtlpapncgcgllfaaLawEth2
namespace Go.Proofs.Ytlpapncgcgllfaa
open Go.RowKit Go.PlainAid
theorem rd_frameBytes (d s : Int) (l : List Int) (t : Int) (x : ByteArray) : rdOk (str (frameBytes d s l t x)) = frameB d s l t x ∧ (frameB d s l t x = true → rdFr (str (frameBytes d s l t x)) = ⟨d, s, l, t, x⟩ ∧ (frameBytes d s l t x).length = 14 + 4 * l.length + x.size) := by
  cases h : frameB d s l t x
  · refine ⟨?_, fun e => by cases e⟩
    have e : frameBytes d s l t x = [] := by unfold frameBytes; rw [h]; rfl
    rw [e]
    exact rd_short (by rw [str_size]; simp)
  · have e : frameBytes d s l t x = fbytes d s l t x := by unfold frameBytes; rw [if_pos h]
    rw [e]
    have := read_back h
    exact ⟨this.1, fun _ => ⟨this.2, fbytes_len0 d s l t x⟩⟩
theorem rd_len (s : ByteArray) : (rdFr s).l.length ≤ 2 ∧ (rdFr s).x.size ≤ s.size := by
  cases h : rdOk s
  · rw [rdFr_no h]; exact ⟨by simp, Nat.zero_le _⟩
  · have h' := h
    rw [rdFr_yes h]
    unfold rdOk at h'
    rw [Bool.and_eq_true] at h'
    have := frame_facts h'.2
    refine ⟨this.2.2.1, ?_⟩
    show (s.extract _ _).size ≤ _
    rw [ByteArray.size_extract]; omega
set_option maxRecDepth 100000 in
set_option maxHeartbeats 6400000 in
theorem walk_FnEthers (C : Option Addr) (len cap : Nat) (zs : List Int) (w : World) (w0 : IsRow .u8 w C len cap zs) :
    Calls Try.prog 4 #[.slice C len cap] w fun e w' => e = .returned (.bool true) ∧ Below w.heap.size w w' := by
  have hl := row_len w0
  by_cases hz : 1048576 < len
  · go_enter Try.func4, Try.ntmps4
    go_wp2
    go_ret
    exact ⟨rfl, Below.refl _ _⟩
  · have hC := code_of_row w0 (by omega)
    clear w0
    go_enter Try.func4, Try.ntmps4
    go_wp2_with fail
    refine (big_no _ _ _ _ (by omega)).mono ?_
    rintro e w' ⟨rfl, hw'⟩
    rw [hw']
    clear hw' w'
    go_wp2_with fail
    refine (d_FrameBytes _ C len cap _ hC).mono ?_
    rintro e w1 ⟨d, s, v, l, t, x, rfl, hof, hl3, hxs, hB⟩
    obtain ⟨Tf, cf, rfl⟩ := hof.form
    have hf := Box.new w1 #[.int .i64 d, .int .i64 s, .slice Tf l.length cf, .int .i64 t, .string x] 24
    have hbz := (Below.refl _ w1).alloc (Nat.le_refl _) (.cells #[.int .i64 d, .int .i64 s, .slice Tf l.length cf, .int .i64 t, .string x] 24)
    replace hof := hof.far hbz
    replace hB := hB.trans (hbz.mono hB.size)
    clear hbz
    have CI : Hid (∀ v : World, IntsAt v Tf l → Calls Try.prog 14 #[.agg #[.int .i64 d, .int .i64 s, .slice Tf l.length cf, .int .i64 t, .string x]] v fun e w' => e = .returned (.string (str (frameBytes d s l t x))) ∧ Below v.heap.size v w') := fun v hv => i_FrameBytes d s Tf cf l t x v hv (by omega) (by omega)
    have CS : Hid (∀ v : World, IntsAt v Tf l → Calls Try.prog 16 #[.agg #[.int .i64 d, .int .i64 s, .slice Tf l.length cf, .int .i64 t, .string x]] v fun e w' => e = .returned (.string (str (frameBytes d s l t x))) ∧ Below v.heap.size v w') := fun v hv => s_FrameBytes d s Tf cf l t x v hv (by omega) (by omega)
    have OI : Hid (∀ v : World, IntsAt v Tf l → Calls Try.prog 19 #[.agg #[.int .i64 d, .int .i64 s, .slice Tf l.length cf, .int .i64 t, .string x]] v fun e w' => e = .returned (.bool (frameB d s l t x)) ∧ Below v.heap.size v w') := fun v hv => i_FrameOk d s Tf cf l t x v hv (by omega) (by omega)
    have OS : Hid (∀ v : World, IntsAt v Tf l → Calls Try.prog 18 #[.agg #[.int .i64 d, .int .i64 s, .slice Tf l.length cf, .int .i64 t, .string x]] v fun e w' => e = .returned (.bool (frameB d s l t x)) ∧ Below v.heap.size v w') := fun v hv => s_FrameOk d s Tf cf l t x v hv (by omega) (by omega)
    have HL : (frameBytes d s l t x).length ≤ 70000 := by
      unfold frameBytes
      split
      · rw [fbytes_len0]; omega
      · simp
    have hSs := str_size (frameBytes d s l t x)
    have CR : Hid (∀ v : World, Calls Try.prog 8 #[.string (str (frameBytes d s l t x))] v fun e w' => GaveT v (rdFr (str (frameBytes d s l t x))) (frameB d s l t x) e w') := fun v => by
      have := i_ReadFrame (str (frameBytes d s l t x)) v (by omega)
      rw [(rd_frameBytes d s l t x).1] at this
      exact this
    have HZ : Hid ((frameB d s l t x = true → rdFr (str (frameBytes d s l t x)) = ⟨d, s, l, t, x⟩ ∧ (frameBytes d s l t x).length = 14 + 4 * l.length + x.size)) := (rd_frameBytes d s l t x).2
    generalize rdFr (str (frameBytes d s l t x)) = r3 at *
    generalize frameB d s l t x = ok at *
    generalize frameBytes d s l t x = Tx at *
    have p0 := hf.2 0 _ rfl
    have p1 := hf.2 1 _ rfl
    have p2 := hf.2 2 _ rfl
    have p3 := hf.2 3 _ rfl
    have p4 := hf.2 4 _ rfl
    have p9 := hf.1
    go_wp2_with fail
    clear p0 p1 p2 p3 p4 p9
    refine (CI.out _ hof.src.ints.2).mono ?_
    rintro e w2 ⟨rfl, hbz⟩
    replace hf := hf.below hbz
    replace hof := hof.far hbz
    replace hB := hB.trans (hbz.mono hB.size)
    clear hbz
    clear CI
    have hC2 := hC.below hB
    go_wp2_with fail
    refine (d_ReadFrame _ C len cap _ hC2).mono ?_
    rintro e w3 ⟨q, rfl, hq, hbz⟩
    replace hf := hf.below hbz
    replace hof := hof.far hbz
    replace hB := hB.trans (hbz.mono hB.size)
    clear hbz
    clear hC2
    have DI : Hid (∀ v : World, Calls Try.prog 8 #[.string q] v fun e w' => GaveT v (rdFr q) (rdOk q) e w') := fun v => i_ReadFrame q v (by omega)
    have DS : Hid (∀ v : World, Calls Try.prog 7 #[.string q] v fun e w' => GaveT v (rdFr q) (rdOk q) e w') := fun v => s_ReadFrame q v (by omega)
    have HA : Hid (rdOk q = true → str (frameBytes (rdFr q).d (rdFr q).s (rdFr q).l (rdFr q).t (rdFr q).x) = q) := read_again
    have hrl := rd_len q
    generalize rdOk q = is at *
    generalize rdFr q = r1 at *
    obtain ⟨rd, rs, rl, rt, rx⟩ := r1
    obtain ⟨zd, zs', zl, zt, zx⟩ := r3
    simp only at HA hrl HZ
    obtain ⟨hrl, hrx⟩ := hrl
    go_wp2_with fail
    refine (DI.out _).mono ?_
    rintro e w4 ⟨va, rfl, hoa, hbz⟩
    obtain ⟨Ta, ca, rfl⟩ := hoa.form
    replace hf := hf.below hbz
    replace hof := hof.far hbz
    replace hB := hB.trans (hbz.mono hB.size)
    clear hbz
    have ha := Box.new w4 #[.int .i64 rd, .int .i64 rs, .slice Ta rl.length ca, .int .i64 rt, .string rx] 24
    have hbz := (Below.refl _ w4).alloc (Nat.le_refl _) (.cells #[.int .i64 rd, .int .i64 rs, .slice Ta rl.length ca, .int .i64 rt, .string rx] 24)
    replace hoa := hoa.far hbz
    replace hf := hf.below hbz
    replace hof := hof.far hbz
    replace hB := hB.trans (hbz.mono hB.size)
    clear hbz
    go_wp2_with fail
    refine (DS.out _).mono ?_
    rintro e w5 ⟨vb, rfl, hob, hbz⟩
    obtain ⟨Tb, cb, rfl⟩ := hob.form
    replace hf := hf.below hbz
    replace ha := ha.below hbz
    replace hof := hof.far hbz
    replace hoa := hoa.far hbz
    replace hB := hB.trans (hbz.mono hB.size)
    clear hbz
    have hbx := Box.new w5 #[.int .i64 rd, .int .i64 rs, .slice Tb rl.length cb, .int .i64 rt, .string rx] 24
    have hbz := (Below.refl _ w5).alloc (Nat.le_refl _) (.cells #[.int .i64 rd, .int .i64 rs, .slice Tb rl.length cb, .int .i64 rt, .string rx] 24)
    replace hob := hob.far hbz
    replace hf := hf.below hbz
    replace ha := ha.below hbz
    replace hof := hof.far hbz
    replace hoa := hoa.far hbz
    replace hB := hB.trans (hbz.mono hB.size)
    clear hbz
    have p0 := hf.2 0 _ rfl
    have p1 := hf.2 1 _ rfl
    have p2 := hf.2 2 _ rfl
    have p3 := hf.2 3 _ rfl
    have p4 := hf.2 4 _ rfl
    have p9 := hf.1
    go_wp2_with fail
    clear p0 p1 p2 p3 p4 p9
    refine (CS.out _ hof.src.ints.2).mono ?_
    rintro e w6 ⟨rfl, hbz⟩
    replace hf := hf.below hbz
    replace ha := ha.below hbz
    replace hbx := hbx.below hbz
    replace hof := hof.far hbz
    replace hoa := hoa.far hbz
    replace hob := hob.far hbz
    replace hB := hB.trans (hbz.mono hB.size)
    clear hbz
    have e0 : (is != is) = false := by simp
    have p0 := ha.2 0 _ rfl
    have p1 := ha.2 1 _ rfl
    have p2 := ha.2 2 _ rfl
    have p3 := ha.2 3 _ rfl
    have p4 := ha.2 4 _ rfl
    have p9 := ha.1
    have q0 := hbx.2 0 _ rfl
    have q1 := hbx.2 1 _ rfl
    have q2 := hbx.2 2 _ rfl
    have q3 := hbx.2 3 _ rfl
    have q4 := hbx.2 4 _ rfl
    have q9 := hbx.1
    go_wp2_with fail
    clear p0 p1 p2 p3 p4 p9
    clear q0 q1 q2 q3 q4 q9
    refine (l_sameFrame rd rs Ta Tb ca cb rl rt rx _ hoa.src.ints.2 hob.src.ints.2 (by omega)).mono ?_
    rintro e w7 ⟨rfl, hbz⟩
    replace hf := hf.below hbz
    replace ha := ha.below hbz
    replace hbx := hbx.below hbz
    replace hof := hof.far hbz
    replace hoa := hoa.far hbz
    replace hob := hob.far hbz
    replace hB := hB.trans (hbz.mono hB.size)
    clear hbz
    cases is
    · clear HA
      go_wp2_with fail
      refine (CR.out _).mono ?_
      rintro e w9 ⟨vz, rfl, hoz, hbz⟩
      obtain ⟨Tz, cz, rfl⟩ := hoz.form
      replace hf := hf.below hbz
      replace ha := ha.below hbz
      replace hbx := hbx.below hbz
      replace hof := hof.far hbz
      replace hoa := hoa.far hbz
      replace hob := hob.far hbz
      replace hB := hB.trans (hbz.mono hB.size)
      clear hbz
      have hz := Box.new w9 #[.int .i64 zd, .int .i64 zs', .slice Tz zl.length cz, .int .i64 zt, .string zx] 24
      have hbz := (Below.refl _ w9).alloc (Nat.le_refl _) (.cells #[.int .i64 zd, .int .i64 zs', .slice Tz zl.length cz, .int .i64 zt, .string zx] 24)
      replace hoz := hoz.far hbz
      replace hf := hf.below hbz
      replace ha := ha.below hbz
      replace hbx := hbx.below hbz
      replace hof := hof.far hbz
      replace hoa := hoa.far hbz
      replace hob := hob.far hbz
      replace hB := hB.trans (hbz.mono hB.size)
      clear hbz
      have p0 := hf.2 0 _ rfl
      have p1 := hf.2 1 _ rfl
      have p2 := hf.2 2 _ rfl
      have p3 := hf.2 3 _ rfl
      have p4 := hf.2 4 _ rfl
      have p9 := hf.1
      go_wp2_with fail
      clear p0 p1 p2 p3 p4 p9
      refine (OS.out _ hof.src.ints.2).mono ?_
      rintro e wa ⟨rfl, hbz⟩
      replace hf := hf.below hbz
      replace ha := ha.below hbz
      replace hbx := hbx.below hbz
      replace hz := hz.below hbz
      replace hof := hof.far hbz
      replace hoa := hoa.far hbz
      replace hob := hob.far hbz
      replace hoz := hoz.far hbz
      replace hB := hB.trans (hbz.mono hB.size)
      clear hbz
      have e1 : (ok == ok) = true := by simp
      have p0 := hf.2 0 _ rfl
      have p1 := hf.2 1 _ rfl
      have p2 := hf.2 2 _ rfl
      have p3 := hf.2 3 _ rfl
      have p4 := hf.2 4 _ rfl
      have p9 := hf.1
      go_wp2_with fail
      clear p0 p1 p2 p3 p4 p9
      refine (OI.out _ hof.src.ints.2).mono ?_
      rintro e wb ⟨rfl, hbz⟩
      replace hf := hf.below hbz
      replace ha := ha.below hbz
      replace hbx := hbx.below hbz
      replace hz := hz.below hbz
      replace hof := hof.far hbz
      replace hoa := hoa.far hbz
      replace hob := hob.far hbz
      replace hoz := hoz.far hbz
      replace hB := hB.trans (hbz.mono hB.size)
      clear hbz
      cases ok
      · go_wp2
        go_ret
        exact ⟨by simp, hB⟩
      · obtain ⟨h1, h2⟩ := HZ.out rfl
        injection h1 with g1 g2 g3 g4 g5
        subst g1 g2 g3 g4 g5
        have p0 := hf.2 0 _ rfl
        have p1 := hf.2 1 _ rfl
        have p2 := hf.2 2 _ rfl
        have p3 := hf.2 3 _ rfl
        have p4 := hf.2 4 _ rfl
        have p9 := hf.1
        have q0 := hz.2 0 _ rfl
        have q1 := hz.2 1 _ rfl
        have q2 := hz.2 2 _ rfl
        have q3 := hz.2 3 _ rfl
        have q4 := hz.2 4 _ rfl
        have q9 := hz.1
        go_wp2_with fail
        clear p0 p1 p2 p3 p4 p9
        clear q0 q1 q2 q3 q4 q9
        refine (l_sameFrame _ _ Tz Tf cz cf _ _ _ _ hoz.src.ints.2 hof.src.ints.2 (by omega)).mono ?_
        rintro e wc ⟨rfl, hbz⟩
        replace hf := hf.below hbz
        replace ha := ha.below hbz
        replace hbx := hbx.below hbz
        replace hz := hz.below hbz
        replace hof := hof.far hbz
        replace hoa := hoa.far hbz
        replace hob := hob.far hbz
        replace hoz := hoz.far hbz
        replace hB := hB.trans (hbz.mono hB.size)
        clear hbz
        have p0 := hf.2 0 _ rfl
        have p1 := hf.2 1 _ rfl
        have p2 := hf.2 2 _ rfl
        have p3 := hf.2 3 _ rfl
        have p4 := hf.2 4 _ rfl
        have p9 := hf.1
        go_wp2
        go_ret
        exact ⟨by simp, hB⟩
    · have EA : Hid (∀ v : World, IntsAt v Ta rl → Calls Try.prog 14 #[.agg #[.int .i64 rd, .int .i64 rs, .slice Ta rl.length ca, .int .i64 rt, .string rx]] v fun e w' => e = .returned (.string q) ∧ Below v.heap.size v w') := fun v hv => by
        have := i_FrameBytes rd rs Ta ca rl rt rx v hv (by omega) (by omega)
        rw [HA.out rfl] at this
        exact this
      clear HA
      have p0 := ha.2 0 _ rfl
      have p1 := ha.2 1 _ rfl
      have p2 := ha.2 2 _ rfl
      have p3 := ha.2 3 _ rfl
      have p4 := ha.2 4 _ rfl
      have p9 := ha.1
      go_wp2_with fail
      clear p0 p1 p2 p3 p4 p9
      refine (EA.out _ hoa.src.ints.2).mono ?_
      rintro e w8 ⟨rfl, hbz⟩
      replace hf := hf.below hbz
      replace ha := ha.below hbz
      replace hbx := hbx.below hbz
      replace hof := hof.far hbz
      replace hoa := hoa.far hbz
      replace hob := hob.far hbz
      replace hB := hB.trans (hbz.mono hB.size)
      clear hbz
      go_wp2_with fail
      refine (CR.out _).mono ?_
      rintro e w9 ⟨vz, rfl, hoz, hbz⟩
      obtain ⟨Tz, cz, rfl⟩ := hoz.form
      replace hf := hf.below hbz
      replace ha := ha.below hbz
      replace hbx := hbx.below hbz
      replace hof := hof.far hbz
      replace hoa := hoa.far hbz
      replace hob := hob.far hbz
      replace hB := hB.trans (hbz.mono hB.size)
      clear hbz
      have hz := Box.new w9 #[.int .i64 zd, .int .i64 zs', .slice Tz zl.length cz, .int .i64 zt, .string zx] 24
      have hbz := (Below.refl _ w9).alloc (Nat.le_refl _) (.cells #[.int .i64 zd, .int .i64 zs', .slice Tz zl.length cz, .int .i64 zt, .string zx] 24)
      replace hoz := hoz.far hbz
      replace hf := hf.below hbz
      replace ha := ha.below hbz
      replace hbx := hbx.below hbz
      replace hof := hof.far hbz
      replace hoa := hoa.far hbz
      replace hob := hob.far hbz
      replace hB := hB.trans (hbz.mono hB.size)
      clear hbz
      have p0 := hf.2 0 _ rfl
      have p1 := hf.2 1 _ rfl
      have p2 := hf.2 2 _ rfl
      have p3 := hf.2 3 _ rfl
      have p4 := hf.2 4 _ rfl
      have p9 := hf.1
      go_wp2_with fail
      clear p0 p1 p2 p3 p4 p9
      refine (OS.out _ hof.src.ints.2).mono ?_
      rintro e wa ⟨rfl, hbz⟩
      replace hf := hf.below hbz
      replace ha := ha.below hbz
      replace hbx := hbx.below hbz
      replace hz := hz.below hbz
      replace hof := hof.far hbz
      replace hoa := hoa.far hbz
      replace hob := hob.far hbz
      replace hoz := hoz.far hbz
      replace hB := hB.trans (hbz.mono hB.size)
      clear hbz
      have e1 : (ok == ok) = true := by simp
      have p0 := hf.2 0 _ rfl
      have p1 := hf.2 1 _ rfl
      have p2 := hf.2 2 _ rfl
      have p3 := hf.2 3 _ rfl
      have p4 := hf.2 4 _ rfl
      have p9 := hf.1
      go_wp2_with fail
      clear p0 p1 p2 p3 p4 p9
      refine (OI.out _ hof.src.ints.2).mono ?_
      rintro e wb ⟨rfl, hbz⟩
      replace hf := hf.below hbz
      replace ha := ha.below hbz
      replace hbx := hbx.below hbz
      replace hz := hz.below hbz
      replace hof := hof.far hbz
      replace hoa := hoa.far hbz
      replace hob := hob.far hbz
      replace hoz := hoz.far hbz
      replace hB := hB.trans (hbz.mono hB.size)
      clear hbz
      cases ok
      · go_wp2
        go_ret
        exact ⟨by simp, hB⟩
      · obtain ⟨h1, h2⟩ := HZ.out rfl
        injection h1 with g1 g2 g3 g4 g5
        subst g1 g2 g3 g4 g5
        have p0 := hf.2 0 _ rfl
        have p1 := hf.2 1 _ rfl
        have p2 := hf.2 2 _ rfl
        have p3 := hf.2 3 _ rfl
        have p4 := hf.2 4 _ rfl
        have p9 := hf.1
        have q0 := hz.2 0 _ rfl
        have q1 := hz.2 1 _ rfl
        have q2 := hz.2 2 _ rfl
        have q3 := hz.2 3 _ rfl
        have q4 := hz.2 4 _ rfl
        have q9 := hz.1
        go_wp2_with fail
        clear p0 p1 p2 p3 p4 p9
        clear q0 q1 q2 q3 q4 q9
        refine (l_sameFrame _ _ Tz Tf cz cf _ _ _ _ hoz.src.ints.2 hof.src.ints.2 (by omega)).mono ?_
        rintro e wc ⟨rfl, hbz⟩
        replace hf := hf.below hbz
        replace ha := ha.below hbz
        replace hbx := hbx.below hbz
        replace hz := hz.below hbz
        replace hof := hof.far hbz
        replace hoa := hoa.far hbz
        replace hob := hob.far hbz
        replace hoz := hoz.far hbz
        replace hB := hB.trans (hbz.mono hB.size)
        clear hbz
        have p0 := hf.2 0 _ rfl
        have p1 := hf.2 1 _ rfl
        have p2 := hf.2 2 _ rfl
        have p3 := hf.2 3 _ rfl
        have p4 := hf.2 4 _ rfl
        have p9 := hf.1
        go_wp2
        go_ret
        exact ⟨by simp, hB⟩
end Go.Proofs.Ytlpapncgcgllfaa
