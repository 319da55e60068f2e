/-
  The walk of the law FnTags.
-/
import Derived.Test.YtlpapncgcgllfaaDrawf3
namespace Go.Proofs.Ytlpapncgcgllfaa
open Go.RowKit Go.PlainAid
theorem ownI.cap {w : World} {B : Nat} {T : Option Addr} {n c : Nat} {l : List Int} (h : ownI w B (.slice T n c) l) : n ≤ c := by
  rcases h.shape with ⟨e, _⟩ | ⟨g, cap, e, _, _, hc⟩
  · injection e with _ h1 h2; omega
  · injection e with _ h1 h2; omega
theorem tag_back {d s : Int} {l : List Int} {t : Int} {x : ByteArray} {g : Int} (h : okT d s l t x g = true) :
    okU d s (g :: l) t x = true ∧ untaggedF d s (g :: l) t x = ⟨d, s, l, t, x⟩ ∧ untagG d s (g :: l) t x = g ∧ frameBytes d s (g :: l) t x = fbytes d s (g :: l) t x ∧ frameBytes d s l t x = fbytes d s l t x := by
  unfold okT at h
  rw [Bool.and_eq_true, Bool.and_eq_true, decide_eq_true_eq] at h
  obtain ⟨⟨h1, h2⟩, h3⟩ := h
  have h1' := h1
  unfold frameB at h1'
  simp only [Bool.and_eq_true, tagsB, decide_eq_true_eq] at h1'
  obtain ⟨⟨⟨⟨m1, m2⟩, m3, m4⟩, m5⟩, m6⟩ := h1'
  have hf : frameB d s (g :: l) t x = true := by
    unfold frameB
    simp only [Bool.and_eq_true, tagsB, decide_eq_true_eq]
    refine ⟨⟨⟨⟨m1, m2⟩, ?_, ?_⟩, m5⟩, m6⟩
    · simp; omega
    · unfold tagsIn at m4 ⊢
      rw [List.all_cons, h2, m4]; rfl
  have hu : okU d s (g :: l) t x = true := by
    unfold okU
    rw [hf]; simp
  refine ⟨hu, ?_, ?_, ?_, ?_⟩
  · unfold untaggedF; rw [if_pos hu]; rfl
  · unfold untagG; rw [if_pos hu]; rfl
  · unfold frameBytes; rw [if_pos hf]
  · unfold frameBytes; rw [if_pos h1]
theorem fbytes_length (d s : Int) (l : List Int) (t : Int) (x : ByteArray) : (fbytes d s l t x).length = 14 + 4 * l.length + x.size := by
  unfold fbytes
  rw [List.length_append, List.length_append, fpre_length, be_length, bl_length]; omega

set_option maxRecDepth 100000 in
set_option maxHeartbeats 6400000 in
theorem walk_FnTags (C : Option Addr) (len cap : Nat) (zs : List Int) (w : World) (w0 : IsRow .u8 w C len cap zs) :
    Calls Try.prog 6 #[.slice C len cap] w fun e w' => e = .returned (.bool true) ∧ Below w.heap.size w w' := by
  have hl := row_len w0
  by_cases hz : 1048576 < len
  · go_enter Try.func6, Try.ntmps6
    go_wp2
    go_ret
    exact ⟨rfl, Below.refl _ _⟩
  · have hC := code_of_row w0 (by omega)
    clear w0
    go_enter Try.func6, Try.ntmps6
    go_wp2_with fail
    refine (big_no _ _ _ _ (by omega)).mono ?_
    rintro e w' ⟨rfl, hw'⟩
    rw [hw']
    clear hw' w'
    go_wp2_with fail
    refine (d_Tagged _ C len cap _ hC).mono ?_
    rintro e w1 ⟨d, s, v, l, t, x, g, rfl, hof, hl3, hxs, hB⟩
    have HT : Hid ((taggedF d s l t x g).l.length ≤ 4 ∧ (okT d s l t x g = true → taggedF d s l t x g = ⟨d, s, g :: l, t, x⟩)) := by
      show _ ∧ _
      cases hk : okT d s l t x g
      · exact ⟨by rw [taggedF_no hk]; simp, by simp⟩
      · exact ⟨by rw [taggedF_yes hk]; simp; omega, fun _ => taggedF_yes hk⟩
    have HU : Hid ((untaggedF d s l t x).l.length ≤ 4) := by
      show _ ≤ _
      unfold untaggedF
      split
      · simp; omega
      · simp
    have HK : Hid (okT d s l t x g = true → okU d s (g :: l) t x = true ∧ untaggedF d s (g :: l) t x = ⟨d, s, l, t, x⟩ ∧ untagG d s (g :: l) t x = g ∧ frameBytes d s (g :: l) t x = fbytes d s (g :: l) t x ∧ frameBytes d s l t x = fbytes d s l t x) := tag_back
    obtain ⟨Tf, cf, rfl⟩ := hof.form
    have hcf := hof.cap
    have hf := Box.new w1 #[.int .i64 d, .int .i64 s, .slice Tf l.length cf, .int .i64 t, .string x] 24
    have hbz := (Below.refl _ w1).alloc (Nat.le_refl _) (.cells #[.int .i64 d, .int .i64 s, .slice Tf l.length cf, .int .i64 t, .string x] 24)
    replace hof := hof.far hbz
    replace hB := hB.trans (hbz.mono hB.size)
    clear hbz
    have CT : Hid (∀ v : World, Src v (.slice Tf l.length cf) l → Calls Try.prog 23 #[.agg #[.int .i64 d, .int .i64 s, .slice Tf l.length cf, .int .i64 t, .string x], .int .i64 g] v fun e w' => GaveT v (taggedF d s l t x g) (okT d s l t x g) e w') := fun v hv => i_Tagged d s Tf cf l t x g v hv (by omega) (by omega)
    have DT : Hid (∀ v : World, Src v (.slice Tf l.length cf) l → Calls Try.prog 24 #[.agg #[.int .i64 d, .int .i64 s, .slice Tf l.length cf, .int .i64 t, .string x], .int .i64 g] v fun e w' => GaveT v (taggedF d s l t x g) (okT d s l t x g) e w') := fun v hv => s_Tagged d s Tf cf l t x g v hv (by omega) (by omega)
    have CU : Hid (∀ v : World, Src v (.slice Tf l.length cf) l → Calls Try.prog 25 #[.agg #[.int .i64 d, .int .i64 s, .slice Tf l.length cf, .int .i64 t, .string x]] v fun e w' => GaveU v (untaggedF d s l t x) (untagG d s l t x) (okU d s l t x) e w') := fun v hv => i_Untagged d s Tf cf l t x v hv hcf (by omega) (by omega)
    have DU : Hid (∀ v : World, Src v (.slice Tf l.length cf) l → Calls Try.prog 26 #[.agg #[.int .i64 d, .int .i64 s, .slice Tf l.length cf, .int .i64 t, .string x]] v fun e w' => GaveU v (untaggedF d s l t x) (untagG d s l t x) (okU d s l t x) e w') := fun v hv => s_Untagged d s Tf cf l t x v hv hcf (by omega) (by omega)
    generalize taggedF d s l t x g = r1 at *
    generalize untaggedF d s l t x = r2 at *
    generalize okT d s l t x g = ok at *
    generalize okU d s l t x = is at *
    generalize untagG d s l t x = n at *
    obtain ⟨rd, rs, rl, rt, rx⟩ := r1
    obtain ⟨ud, us, ul, ut, ux⟩ := r2
    simp only at HT HU
    have hrl := HT.out.1
    have hul := HU.out
    clear HU
    have p0 := hf.2 0 _ rfl
    have p1 := hf.2 1 _ rfl
    have p2 := hf.2 2 _ rfl
    have p3 := hf.2 3 _ rfl
    have p4 := hf.2 4 _ rfl
    have p9 := hf.1
    go_wp2_with fail
    clear p0 p1 p2 p3 p4 p9
    refine (CT.out _ hof.src).mono ?_
    rintro e w2 ⟨va, rfl, hoa, hbz⟩
    obtain ⟨Ta, ca, rfl⟩ := hoa.form
    replace hf := hf.below hbz
    replace hof := hof.far hbz
    replace hB := hB.trans (hbz.mono hB.size)
    clear hbz
    have ha := Box.new w2 #[.int .i64 rd, .int .i64 rs, .slice Ta rl.length ca, .int .i64 rt, .string rx] 24
    have hbz := (Below.refl _ w2).alloc (Nat.le_refl _) (.cells #[.int .i64 rd, .int .i64 rs, .slice Ta rl.length ca, .int .i64 rt, .string rx] 24)
    replace hoa := hoa.far hbz
    replace hf := hf.below hbz
    replace hof := hof.far hbz
    replace hB := hB.trans (hbz.mono hB.size)
    clear hbz
    have p0 := hf.2 0 _ rfl
    have p1 := hf.2 1 _ rfl
    have p2 := hf.2 2 _ rfl
    have p3 := hf.2 3 _ rfl
    have p4 := hf.2 4 _ rfl
    have p9 := hf.1
    go_wp2_with fail
    clear p0 p1 p2 p3 p4 p9
    refine (DT.out _ hof.src).mono ?_
    rintro e w3 ⟨vb, rfl, hob, hbz⟩
    obtain ⟨Tb, cb, rfl⟩ := hob.form
    replace hf := hf.below hbz
    replace ha := ha.below hbz
    replace hof := hof.far hbz
    replace hoa := hoa.far hbz
    replace hB := hB.trans (hbz.mono hB.size)
    clear hbz
    have hbx := Box.new w3 #[.int .i64 rd, .int .i64 rs, .slice Tb rl.length cb, .int .i64 rt, .string rx] 24
    have hbz := (Below.refl _ w3).alloc (Nat.le_refl _) (.cells #[.int .i64 rd, .int .i64 rs, .slice Tb rl.length cb, .int .i64 rt, .string rx] 24)
    replace hob := hob.far hbz
    replace hf := hf.below hbz
    replace ha := ha.below hbz
    replace hof := hof.far hbz
    replace hoa := hoa.far hbz
    replace hB := hB.trans (hbz.mono hB.size)
    clear hbz
    have p0 := hf.2 0 _ rfl
    have p1 := hf.2 1 _ rfl
    have p2 := hf.2 2 _ rfl
    have p3 := hf.2 3 _ rfl
    have p4 := hf.2 4 _ rfl
    have p9 := hf.1
    go_wp2_with fail
    clear p0 p1 p2 p3 p4 p9
    refine (CU.out _ hof.src).mono ?_
    rintro e w4 ⟨vc, rfl, hoc, hbz⟩
    obtain ⟨Tc, cc, rfl⟩ := hoc.form
    replace hf := hf.below hbz
    replace ha := ha.below hbz
    replace hbx := hbx.below hbz
    replace hof := hof.far hbz
    replace hoa := hoa.far hbz
    replace hob := hob.far hbz
    replace hB := hB.trans (hbz.mono hB.size)
    clear hbz
    have hc := Box.new w4 #[.int .i64 ud, .int .i64 us, .slice Tc ul.length cc, .int .i64 ut, .string ux] 24
    have hbz := (Below.refl _ w4).alloc (Nat.le_refl _) (.cells #[.int .i64 ud, .int .i64 us, .slice Tc ul.length cc, .int .i64 ut, .string ux] 24)
    replace hoc := hoc.far hbz
    replace hf := hf.below hbz
    replace ha := ha.below hbz
    replace hbx := hbx.below hbz
    replace hof := hof.far hbz
    replace hoa := hoa.far hbz
    replace hob := hob.far hbz
    replace hB := hB.trans (hbz.mono hB.size)
    clear hbz
    have p0 := hf.2 0 _ rfl
    have p1 := hf.2 1 _ rfl
    have p2 := hf.2 2 _ rfl
    have p3 := hf.2 3 _ rfl
    have p4 := hf.2 4 _ rfl
    have p9 := hf.1
    go_wp2_with fail
    clear p0 p1 p2 p3 p4 p9
    refine (DU.out _ hof.src).mono ?_
    rintro e w5 ⟨vd, rfl, hod, hbz⟩
    obtain ⟨Td, cd, rfl⟩ := hod.form
    replace hf := hf.below hbz
    replace ha := ha.below hbz
    replace hbx := hbx.below hbz
    replace hc := hc.below hbz
    replace hof := hof.far hbz
    replace hoa := hoa.far hbz
    replace hob := hob.far hbz
    replace hoc := hoc.far hbz
    replace hB := hB.trans (hbz.mono hB.size)
    clear hbz
    have hd := Box.new w5 #[.int .i64 ud, .int .i64 us, .slice Td ul.length cd, .int .i64 ut, .string ux] 24
    have hbz := (Below.refl _ w5).alloc (Nat.le_refl _) (.cells #[.int .i64 ud, .int .i64 us, .slice Td ul.length cd, .int .i64 ut, .string ux] 24)
    replace hod := hod.far hbz
    replace hf := hf.below hbz
    replace ha := ha.below hbz
    replace hbx := hbx.below hbz
    replace hc := hc.below hbz
    replace hof := hof.far hbz
    replace hoa := hoa.far hbz
    replace hob := hob.far hbz
    replace hoc := hoc.far hbz
    replace hB := hB.trans (hbz.mono hB.size)
    clear hbz
    have e0 : (ok != ok) = false := by simp
    have e1 : (is != is) = false := by simp
    have e2 : (n != n) = false := by simp
    have p0 := ha.2 0 _ rfl
    have p1 := ha.2 1 _ rfl
    have p2 := ha.2 2 _ rfl
    have p3 := ha.2 3 _ rfl
    have p4 := ha.2 4 _ rfl
    have p9 := ha.1
    have q0 := hbx.2 0 _ rfl
    have q1 := hbx.2 1 _ rfl
    have q2 := hbx.2 2 _ rfl
    have q3 := hbx.2 3 _ rfl
    have q4 := hbx.2 4 _ rfl
    have q9 := hbx.1
    go_wp2_with fail
    clear p0 p1 p2 p3 p4 p9
    clear q0 q1 q2 q3 q4 q9
    refine (l_sameFrame rd rs Ta Tb ca cb rl rt rx _ hoa.src.ints.2 hob.src.ints.2 (by omega)).mono ?_
    rintro e w6 ⟨rfl, hbz⟩
    replace hf := hf.below hbz
    replace ha := ha.below hbz
    replace hbx := hbx.below hbz
    replace hc := hc.below hbz
    replace hd := hd.below hbz
    replace hof := hof.far hbz
    replace hoa := hoa.far hbz
    replace hob := hob.far hbz
    replace hoc := hoc.far hbz
    replace hod := hod.far hbz
    replace hB := hB.trans (hbz.mono hB.size)
    clear hbz
    have p0 := hc.2 0 _ rfl
    have p1 := hc.2 1 _ rfl
    have p2 := hc.2 2 _ rfl
    have p3 := hc.2 3 _ rfl
    have p4 := hc.2 4 _ rfl
    have p9 := hc.1
    have q0 := hd.2 0 _ rfl
    have q1 := hd.2 1 _ rfl
    have q2 := hd.2 2 _ rfl
    have q3 := hd.2 3 _ rfl
    have q4 := hd.2 4 _ rfl
    have q9 := hd.1
    go_wp2_with fail
    clear p0 p1 p2 p3 p4 p9
    clear q0 q1 q2 q3 q4 q9
    refine (l_sameFrame ud us Tc Td cc cd ul ut ux _ hoc.src.ints.2 hod.src.ints.2 (by omega)).mono ?_
    rintro e w7 ⟨rfl, hbz⟩
    replace hf := hf.below hbz
    replace ha := ha.below hbz
    replace hbx := hbx.below hbz
    replace hc := hc.below hbz
    replace hd := hd.below hbz
    replace hof := hof.far hbz
    replace hoa := hoa.far hbz
    replace hob := hob.far hbz
    replace hoc := hoc.far hbz
    replace hod := hod.far hbz
    replace hB := hB.trans (hbz.mono hB.size)
    clear hbz
    cases ok
    · clear HT HK
      have p0 := ha.2 0 _ rfl
      have p1 := ha.2 1 _ rfl
      have p2 := ha.2 2 _ rfl
      have p3 := ha.2 3 _ rfl
      have p4 := ha.2 4 _ rfl
      have p9 := ha.1
      have q0 := hbx.2 0 _ rfl
      have q1 := hbx.2 1 _ rfl
      have q2 := hbx.2 2 _ rfl
      have q3 := hbx.2 3 _ rfl
      have q4 := hbx.2 4 _ rfl
      have q9 := hbx.1
      go_wp2_with fail
      clear p0 p1 p2 p3 p4 p9
      clear q0 q1 q2 q3 q4 q9
      refine (l_sameFrame rd rs Ta Tb ca cb rl rt rx _ hoa.src.ints.2 hob.src.ints.2 (by omega)).mono ?_
      rintro e w8 ⟨rfl, hbz⟩
      replace hf := hf.below hbz
      replace ha := ha.below hbz
      replace hbx := hbx.below hbz
      replace hc := hc.below hbz
      replace hd := hd.below hbz
      replace hof := hof.far hbz
      replace hoa := hoa.far hbz
      replace hob := hob.far hbz
      replace hoc := hoc.far hbz
      replace hod := hod.far hbz
      replace hB := hB.trans (hbz.mono hB.size)
      clear hbz
      have p0 := hc.2 0 _ rfl
      have p1 := hc.2 1 _ rfl
      have p2 := hc.2 2 _ rfl
      have p3 := hc.2 3 _ rfl
      have p4 := hc.2 4 _ rfl
      have p9 := hc.1
      have q0 := hd.2 0 _ rfl
      have q1 := hd.2 1 _ rfl
      have q2 := hd.2 2 _ rfl
      have q3 := hd.2 3 _ rfl
      have q4 := hd.2 4 _ rfl
      have q9 := hd.1
      go_wp2_with fail
      clear p0 p1 p2 p3 p4 p9
      clear q0 q1 q2 q3 q4 q9
      refine (l_sameFrame ud us Tc Td cc cd ul ut ux _ hoc.src.ints.2 hod.src.ints.2 (by omega)).mono ?_
      rintro e w9 ⟨rfl, hbz⟩
      replace hf := hf.below hbz
      replace ha := ha.below hbz
      replace hbx := hbx.below hbz
      replace hc := hc.below hbz
      replace hd := hd.below hbz
      replace hof := hof.far hbz
      replace hoa := hoa.far hbz
      replace hob := hob.far hbz
      replace hoc := hoc.far hbz
      replace hod := hod.far hbz
      replace hB := hB.trans (hbz.mono hB.size)
      clear hbz
      go_wp2
      go_ret
      exact ⟨by simp, hB⟩
    · obtain ⟨k1, k2, k3, k4, k5⟩ := HK.out rfl
      have hr1 := HT.out.2 rfl
      injection hr1 with h1 h2 h3 h4 h5
      subst h1 h2 h3 h4 h5
      clear HT HK hrl
      have hca := hoa.cap
      have EU : Hid (∀ v : World, Src v (.slice Ta (g :: l).length ca) (g :: l) → Calls Try.prog 25 #[.agg #[.int .i64 rd, .int .i64 rs, .slice Ta (g :: l).length ca, .int .i64 rt, .string rx]] v fun e w' => GaveU v ⟨rd, rs, l, rt, rx⟩ g true e w') := fun v hv => by
        have := i_Untagged rd rs Ta ca (g :: l) rt rx v hv hca (by simp; omega) (by omega)
        rw [k1, k2, k3] at this
        exact this
      obtain ⟨FB, hFB⟩ : ∃ FB : List Int → ByteArray, FB = fun l' => str (frameBytes rd rs l' rt rx) := ⟨_, rfl⟩
      have EG : Hid (∀ (Tn : Option Addr) (m cn : Nat) (l' : List Int) (v : World), IntsAt v Tn l' → l'.length = m → m ≤ 10 → Calls Try.prog 14 #[.agg #[.int .i64 rd, .int .i64 rs, .slice Tn m cn, .int .i64 rt, .string rx]] v fun e w' => e = .returned (.string (FB l')) ∧ Below v.heap.size v w') := by
        rintro Tn m cn l' v hv rfl hm
        rw [hFB]
        exact i_FrameBytes rd rs Tn cn l' rt rx v hv (by omega) (by omega)
      have S1 : (FB (g :: l)).size = 18 + 4 * l.length + rx.size := by rw [hFB]; simp only [str_size, k4, fbytes_length, List.length_cons]; omega
      have S2 : (FB l).size = 14 + 4 * l.length + rx.size := by rw [hFB]; simp only [str_size, k5, fbytes_length]
      clear hFB
      clear k1 k2 k3 k4 k5
      simp only [List.length_cons] at ha hoa EU
      have p0 := ha.2 0 _ rfl
      have p1 := ha.2 1 _ rfl
      have p2 := ha.2 2 _ rfl
      have p3 := ha.2 3 _ rfl
      have p4 := ha.2 4 _ rfl
      have p9 := ha.1
      go_wp2_with fail
      clear p0 p1 p2 p3 p4 p9
      refine (EU.out _ (by simpa using hoa.src)).mono ?_
      rintro e w8 ⟨ve, rfl, hoe, hbz⟩
      obtain ⟨Te, ce, rfl⟩ := hoe.form
      replace hf := hf.below hbz
      replace ha := ha.below hbz
      replace hbx := hbx.below hbz
      replace hc := hc.below hbz
      replace hd := hd.below hbz
      replace hof := hof.far hbz
      replace hoa := hoa.far hbz
      replace hob := hob.far hbz
      replace hoc := hoc.far hbz
      replace hod := hod.far hbz
      replace hB := hB.trans (hbz.mono hB.size)
      clear hbz
      have he := Box.new w8 #[.int .i64 rd, .int .i64 rs, .slice Te l.length ce, .int .i64 rt, .string rx] 24
      have hbz := (Below.refl _ w8).alloc (Nat.le_refl _) (.cells #[.int .i64 rd, .int .i64 rs, .slice Te l.length ce, .int .i64 rt, .string rx] 24)
      replace hoe := hoe.far hbz
      replace hf := hf.below hbz
      replace ha := ha.below hbz
      replace hbx := hbx.below hbz
      replace hc := hc.below hbz
      replace hd := hd.below hbz
      replace hof := hof.far hbz
      replace hoa := hoa.far hbz
      replace hob := hob.far hbz
      replace hoc := hoc.far hbz
      replace hod := hod.far hbz
      replace hB := hB.trans (hbz.mono hB.size)
      clear hbz
      have ES : Hid (∀ v : World, IntsAt v Te l → IntsAt v Tf l → Calls Try.prog 17 #[.agg #[.int .i64 rd, .int .i64 rs, .slice Te l.length ce, .int .i64 rt, .string rx], .agg #[.int .i64 rd, .int .i64 rs, .slice Tf l.length cf, .int .i64 rt, .string rx]] v fun e w' => e = .returned (.bool true) ∧ Below v.heap.size v w') := fun v h1 h2 => l_sameFrame rd rs Te Tf ce cf l rt rx v h1 h2 (by omega)
      have hy : (FB l).size ≤ 1099511627776 := by omega
      have hy1 : (FB (g :: l)).size ≤ 1099511627776 := by omega
      have e3 : (g == g) = true := by simp
      go_wp2_with fail
      generalize hW : w8.alloc (.cells #[.int .i64 rd, .int .i64 rs, .slice Te l.length ce, .int .i64 rt, .string rx] 24) = w10 at *
      clear hW
      have hne := BW.some w10
      have p0 := fun u : BW w10 => (BW.box he u).2 0 _ rfl
      have p1 := fun u : BW w10 => (BW.box he u).2 1 _ rfl
      have p2 := fun u : BW w10 => (BW.box he u).2 2 _ rfl
      have p3 := fun u : BW w10 => (BW.box he u).2 3 _ rfl
      have p4 := fun u : BW w10 => (BW.box he u).2 4 _ rfl
      have q0 := fun u : BW w10 => (BW.box hf u).2 0 _ rfl
      have q1 := fun u : BW w10 => (BW.box hf u).2 1 _ rfl
      have q2 := fun u : BW w10 => (BW.box hf u).2 2 _ rfl
      have q3 := fun u : BW w10 => (BW.box hf u).2 3 _ rfl
      have q4 := fun u : BW w10 => (BW.box hf u).2 4 _ rfl
      have z0 := fun u : BW w10 => (BW.box ha u).2 0 _ rfl
      have z1 := fun u : BW w10 => (BW.box ha u).2 1 _ rfl
      have z2 := fun u : BW w10 => (BW.box ha u).2 2 _ rfl
      have z3 := fun u : BW w10 => (BW.box ha u).2 3 _ rfl
      have z4 := fun u : BW w10 => (BW.box ha u).2 4 _ rfl
      have ie := fun u : BW w10 => BW.ints hoe.src.ints.2 u
      have if_ := fun u : BW w10 => BW.ints hof.src.ints.2 u
      have ia_ := fun u : BW w10 => BW.ints hoa.src.ints.2 u
      have IE : Hid (∀ u : BW w10, IntsAt u.u Te l) := ie
      have IF : Hid (∀ u : BW w10, IntsAt u.u Tf l) := if_
      have IA : Hid (∀ u : BW w10, IntsAt u.u Ta (g :: l)) := ia_
      clear ie if_ ia_
      refine wp_region_below (by kernel_rfl) (by kernel_rfl) ?_
      repeat (go_big_quiet_step (first | (go_at_call 17; exact Calls.into (ES.out _ (IE.out _) (IF.out _))) | (go_at_call 14; exact Calls.into (EG.out _ _ _ _ _ (by first | exact IA.out _ | exact IF.out _) (by first | rfl | simp) (by first | omega | (simp; omega))))))
      refine wpQuiet_nil ?_
      intro _ hw'
      obtain ⟨u, hw''⟩ := hw'
      subst hw''
      go_wp2
      go_ret
      exact ⟨by simp; omega, hB.trans (u.le.mono hB.size)⟩
end Go.Proofs.Ytlpapncgcgllfaa
