/-
  The walk of the exact law FnExactUntagged.
-/
import Derived.Test.YtlfdpepeanlhlabFrames10
import Derived.Deep.RegionWith
namespace Go.Proofs.Ytlfdpepeanlhlab
open Go.RowKit Go.PlainAid
set_option maxRecDepth 100000 in
set_option maxHeartbeats 6400000 in
theorem walk_FnExactUntagged (d s : Int) (T : Option Addr) (c : Nat) (l : List Int) (t : Int) (x : ByteArray) (w : World) (h : IntsAt w T l) (hl : l.length ≤ maxLen) (hx : x.size ≤ maxLen) :
    Calls Try.prog 13 #[.agg #[.int .i64 d, .int .i64 s, .slice T l.length c, .int .i64 t, .string x]] w fun e w' => e = .returned (.bool true) ∧ Below w.heap.size w w' := by
  unfold maxLen at hl hx
  have hb0 : Below w.heap.size w (w.alloc (.cells #[.int .i64 d, .int .i64 s, .slice T l.length c, .int .i64 t, .string x] 44)) := (Below.refl _ w).alloc (Nat.le_refl _) _
  by_cases hz : 1048576 < l.length + x.size
  · go_enter Try.func13, Try.ntmps13
    go_wp2_with fail
    refine (l_szFrame_no d s T l.length c t x _ hz (by omega) (by omega)).mono ?_
    rintro e w1 ⟨rfl, hb1⟩
    go_wp2
    go_ret
    exact ⟨rfl, hb0.trans (hb1.mono (by simp))⟩
  · obtain ⟨r, hr⟩ : ∃ r, r = untaggedF d s l t x := ⟨_, rfl⟩
    obtain ⟨ok, hok⟩ : ∃ o, o = okU d s l t x := ⟨_, rfl⟩
    obtain ⟨tg, htg⟩ : ∃ o, o = untagG d s l t x := ⟨_, rfl⟩
    have hrl : r.l.length ≤ 1048577 := by rw [hr]; unfold untaggedF; split <;> simp <;> omega
    have CS : Hid (∀ (u : World) (T1 : Option Addr) (c1 : Nat), Src u (.slice T1 l.length c1) l → l.length ≤ c1 → Calls Try.prog 28 #[.agg #[.int .i64 d, .int .i64 s, .slice T1 l.length c1, .int .i64 t, .string x]] u fun e w' => ∃ (v : Value), e = .returned (.tuple #[.agg #[.int .i64 r.d, .int .i64 r.s, v, .int .i64 r.t, .string r.x], .int .i64 tg, .bool ok]) ∧ ownI w' u.heap.size v r.l ∧ Below u.heap.size u w') := by
      intro u T1 c1 hu hc1
      rw [hr, hok, htg]
      exact (s_Untagged d s T1 c1 l t x u hu hc1 (by omega) (by omega))
    have CI : Hid (∀ (u : World) (T1 : Option Addr) (c1 : Nat), Src u (.slice T1 l.length c1) l → l.length ≤ c1 → Calls Try.prog 27 #[.agg #[.int .i64 d, .int .i64 s, .slice T1 l.length c1, .int .i64 t, .string x]] u fun e w' => ∃ (v : Value), e = .returned (.tuple #[.agg #[.int .i64 r.d, .int .i64 r.s, v, .int .i64 r.t, .string r.x], .int .i64 tg, .bool ok]) ∧ ownI w' u.heap.size v r.l ∧ Below u.heap.size u w') := by
      intro u T1 c1 hu hc1
      rw [hr, hok, htg]
      exact (i_Untagged d s T1 c1 l t x u hu hc1 (by omega) (by omega))
    clear hr hok htg
    obtain ⟨rd, rs, rl, rt, rx⟩ := r
    simp only at hrl CS CI
    have hA := Box.new w #[.int .i64 d, .int .i64 s, .slice T l.length c, .int .i64 t, .string x] 44
    go_enter Try.func13, Try.ntmps13
    go_wp2_with fail
    refine (l_szFrame_yes d s T l.length c t x _ (by omega)).mono ?_
    rintro e w1 ⟨rfl, hb1⟩
    have hB := hb0.trans (hb1.mono (by simp))
    replace hA := hA.below hb1
    have s1 : w.heap.size + 1 ≤ w1.heap.size := by have := hb1.size; simp at this; omega
    clear hb1 hb0
    have a0 := hA.2 0 _ rfl
    have a1 := hA.2 1 _ rfl
    have a2 := hA.2 2 _ rfl
    have a3 := hA.2 3 _ rfl
    have a4 := hA.2 4 _ rfl
    have az := hA.1
    go_wp2_with fail
    refine (l_toFrame d s T c l t x _ (h.below hB) (by omega)).mono ?_
    rintro e w2 ⟨g1, rfl, ho1, hb2⟩
    clear a0 a1 a2 a3 a4 az
    replace hA := hA.below hb2
    replace hB := hB.trans (hb2.mono hB.size)
    have s2 := hb2.size
    clear hb2
    go_wp2_with fail
    refine (CS.out w2 _ _ ho1.src (Nat.le_refl _)).mono ?_
    rintro e w3 ⟨va, rfl, hoa, hb3⟩
    obtain ⟨Ta, ca, rfl⟩ := hoa.form
    have hIa := hoa.in
    replace hA := hA.below hb3
    replace hB := hB.trans (hb3.mono hB.size)
    have s3 := hb3.size
    clear hb3 ho1 hoa
    have a0 := hA.2 0 _ rfl
    have a1 := hA.2 1 _ rfl
    have a2 := hA.2 2 _ rfl
    have a3 := hA.2 3 _ rfl
    have a4 := hA.2 4 _ rfl
    have az := hA.1
    go_wp2_with fail
    clear a0 a1 a2 a3 a4 az
    have hbn : Below w3.heap.size w3 (w3.alloc (.cells #[.int .i64 rd, .int .i64 rs, .slice Ta rl.length ca, .int .i64 rt, .string rx] 26)) := (Below.refl _ _).alloc (Nat.le_refl _) _
    replace hA := hA.below hbn
    replace hIa := hIa.below hbn hIa.le
    replace hB := hB.trans (hbn.mono hB.size)
    have hWb := Box.new w3 #[.int .i64 rd, .int .i64 rs, .slice Ta rl.length ca, .int .i64 rt, .string rx] 26
    obtain ⟨w4, hw4⟩ : ∃ u, u = w3.alloc (.cells #[.int .i64 rd, .int .i64 rs, .slice Ta rl.length ca, .int .i64 rt, .string rx] 26) := ⟨_, rfl⟩
    have sw4 : w4.heap.size = w3.heap.size + 1 := by rw [hw4]; simp
    rw [← hw4] at hA hIa hWb hB
    clear hbn
    rw [← hw4]
    clear hw4
    refine (l_toFrame d s T c l t x _ (h.below hB) (by omega)).mono ?_
    rintro e w5 ⟨g2, rfl, ho2, hb5⟩
    have hIx := ho2.in
    replace hA := hA.below hb5
    replace hIa := hIa.below hb5 hIa.le
    replace hWb := hWb.below hb5
    replace hB := hB.trans (hb5.mono hB.size)
    have s5 := hb5.size
    clear hb5 ho2
    have a0 := hA.2 0 _ rfl
    have a1 := hA.2 1 _ rfl
    have a2 := hA.2 2 _ rfl
    have a3 := hA.2 3 _ rfl
    have a4 := hA.2 4 _ rfl
    have az := hA.1
    have wb0 := hWb.2 0 _ rfl
    have wb1 := hWb.2 1 _ rfl
    have wb2 := hWb.2 2 _ rfl
    have wb3 := hWb.2 3 _ rfl
    have wb4 := hWb.2 4 _ rfl
    have wbz := hWb.1
    go_wp2_with fail
    clear a0 a1 a2 a3 a4 az wb0 wb1 wb2 wb3 wb4 wbz
    have hbn : Below w5.heap.size w5 (w5.alloc (.cells #[.int .i64 d, .int .i64 s, .slice (some ⟨g2, 0, none⟩) l.length l.length, .int .i64 t, .string x] 26)) := (Below.refl _ _).alloc (Nat.le_refl _) _
    replace hA := hA.below hbn
    replace hIa := hIa.below hbn hIa.le
    replace hWb := hWb.below hbn
    replace hIx := hIx.below hbn hIx.le
    replace hB := hB.trans (hbn.mono hB.size)
    have hX := Box.new w5 #[.int .i64 d, .int .i64 s, .slice (some ⟨g2, 0, none⟩) l.length l.length, .int .i64 t, .string x] 26
    obtain ⟨w6, hw6⟩ : ∃ u, u = w5.alloc (.cells #[.int .i64 d, .int .i64 s, .slice (some ⟨g2, 0, none⟩) l.length l.length, .int .i64 t, .string x] 26) := ⟨_, rfl⟩
    have sw6 : w6.heap.size = w5.heap.size + 1 := by rw [hw6]; simp
    rw [← hw6] at hA hIa hWb hIx hX hB
    clear hbn
    rw [← hw6]
    clear hw6
    refine (CI.out w6 _ _ hIx.own.src (Nat.le_refl _)).mono ?_
    rintro e w7 ⟨vg, rfl, hog, hb7⟩
    obtain ⟨Tg, cg, rfl⟩ := hog.form
    have hIg := hog.in
    replace hA := hA.below hb7
    replace hIa := hIa.below hb7 hIa.le
    replace hWb := hWb.below hb7
    replace hIx := hIx.below hb7 hIx.le
    replace hX := hX.below hb7
    replace hB := hB.trans (hb7.mono hB.size)
    have s7 := hb7.size
    clear hb7 hog
    have a0 := hA.2 0 _ rfl
    have a1 := hA.2 1 _ rfl
    have a2 := hA.2 2 _ rfl
    have a3 := hA.2 3 _ rfl
    have a4 := hA.2 4 _ rfl
    have az := hA.1
    have wb0 := hWb.2 0 _ rfl
    have wb1 := hWb.2 1 _ rfl
    have wb2 := hWb.2 2 _ rfl
    have wb3 := hWb.2 3 _ rfl
    have wb4 := hWb.2 4 _ rfl
    have wbz := hWb.1
    have x0 := hX.2 0 _ rfl
    have x1 := hX.2 1 _ rfl
    have x2 := hX.2 2 _ rfl
    have x3 := hX.2 3 _ rfl
    have x4 := hX.2 4 _ rfl
    have xz := hX.1
    go_wp2_with fail
    clear a0 a1 a2 a3 a4 az wb0 wb1 wb2 wb3 wb4 wbz x0 x1 x2 x3 x4 xz
    have hbn : Below w7.heap.size w7 (w7.alloc (.cells #[.int .i64 rd, .int .i64 rs, .slice Tg rl.length cg, .int .i64 rt, .string rx] 26)) := (Below.refl _ _).alloc (Nat.le_refl _) _
    replace hA := hA.below hbn
    replace hIa := hIa.below hbn hIa.le
    replace hWb := hWb.below hbn
    replace hIx := hIx.below hbn hIx.le
    replace hX := hX.below hbn
    replace hIg := hIg.below hbn hIg.le
    replace hB := hB.trans (hbn.mono hB.size)
    have hGb := Box.new w7 #[.int .i64 rd, .int .i64 rs, .slice Tg rl.length cg, .int .i64 rt, .string rx] 26
    obtain ⟨w8, hw8⟩ : ∃ u, u = w7.alloc (.cells #[.int .i64 rd, .int .i64 rs, .slice Tg rl.length cg, .int .i64 rt, .string rx] 26) := ⟨_, rfl⟩
    have sw8 : w8.heap.size = w7.heap.size + 1 := by rw [hw8]; simp
    rw [← hw8] at hA hIa hWb hIx hX hIg hGb hB
    clear hbn
    rw [← hw8]
    clear hw8
    refine (l_eqFrame rd rs _ _ _ _ rl rt rx _ hIg.own.src.ints.2 hIa.own.src.ints.2 (by omega)).mono ?_
    rintro e w9 ⟨rfl, hb9⟩
    replace hA := hA.below hb9
    replace hIa := hIa.below hb9 hIa.le
    replace hWb := hWb.below hb9
    replace hIx := hIx.below hb9 hIx.le
    replace hX := hX.below hb9
    replace hIg := hIg.below hb9 hIg.le
    replace hGb := hGb.below hb9
    replace hB := hB.trans (hb9.mono hB.size)
    have s9 := hb9.size
    clear hb9
    have a0 := hA.2 0 _ rfl
    have a1 := hA.2 1 _ rfl
    have a2 := hA.2 2 _ rfl
    have a3 := hA.2 3 _ rfl
    have a4 := hA.2 4 _ rfl
    have az := hA.1
    have wb0 := hWb.2 0 _ rfl
    have wb1 := hWb.2 1 _ rfl
    have wb2 := hWb.2 2 _ rfl
    have wb3 := hWb.2 3 _ rfl
    have wb4 := hWb.2 4 _ rfl
    have wbz := hWb.1
    have x0 := hX.2 0 _ rfl
    have x1 := hX.2 1 _ rfl
    have x2 := hX.2 2 _ rfl
    have x3 := hX.2 3 _ rfl
    have x4 := hX.2 4 _ rfl
    have xz := hX.1
    have gb0 := hGb.2 0 _ rfl
    have gb1 := hGb.2 1 _ rfl
    have gb2 := hGb.2 2 _ rfl
    have gb3 := hGb.2 3 _ rfl
    have gb4 := hGb.2 4 _ rfl
    have gbz := hGb.1
    go_wp2_with fail
    have hIs := h.below hB
    go_region_with (first
      | (go_at_call 38; refine (l_toFrame d s T c l t x _ hIs.drew (by omega)).mono ?_; rintro e w10 ⟨g3, rfl, ho3, hb10⟩; have hi3 := ho3.reads.2; have hi4 := hIx.own.reads.2.drew.below hb10; have hX10 := hX.drew.below hb10; have y0 := hX10.2 0 _ rfl; have y1 := hX10.2 1 _ rfl; have y2 := hX10.2 2 _ rfl; have y3 := hX10.2 3 _ rfl; have y4 := hX10.2 4 _ rfl)
      | (go_at_call 39; refine (l_eqFrame d s _ _ _ _ l t x _ hi4 hi3 (by omega)).mono ?_; rintro e w11 ⟨rfl, hb11⟩))
    all_goals
      have hbd : Below w9.heap.size w9 w11 := ((Below.refl w9.heap.size w9).drew).trans ((hb10.trans (hb11.mono hb10.size)).mono (Nat.le_refl _))
      clear y0 y1 y2 y3 y4 hi3 hi4 ho3 hb10 hb11 hX10 hIs
      clear a0 a1 a2 a3 a4 az wb0 wb1 wb2 wb3 wb4 wbz x0 x1 x2 x3 x4 xz gb0 gb1 gb2 gb3 gb4 gbz
      replace hA := hA.below hbd
      replace hIa := hIa.below hbd hIa.le
      replace hWb := hWb.below hbd
      replace hIx := hIx.below hbd hIx.le
      replace hX := hX.below hbd
      replace hIg := hIg.below hbd hIg.le
      replace hGb := hGb.below hbd
      replace hB := hB.trans (hbd.mono hB.size)
      have s11 := hbd.size
      clear hbd
      have a0 := hA.2 0 _ rfl
      have a1 := hA.2 1 _ rfl
      have a2 := hA.2 2 _ rfl
      have a3 := hA.2 3 _ rfl
      have a4 := hA.2 4 _ rfl
      have az := hA.1
      have wb0 := hWb.2 0 _ rfl
      have wb1 := hWb.2 1 _ rfl
      have wb2 := hWb.2 2 _ rfl
      have wb3 := hWb.2 3 _ rfl
      have wb4 := hWb.2 4 _ rfl
      have wbz := hWb.1
      have x0 := hX.2 0 _ rfl
      have x1 := hX.2 1 _ rfl
      have x2 := hX.2 2 _ rfl
      have x3 := hX.2 3 _ rfl
      have x4 := hX.2 4 _ rfl
      have xz := hX.1
      have gb0 := hGb.2 0 _ rfl
      have gb1 := hGb.2 1 _ rfl
      have gb2 := hGb.2 2 _ rfl
      have gb3 := hGb.2 3 _ rfl
      have gb4 := hGb.2 4 _ rfl
      have gbz := hGb.1
      have n1 : ((l.length : Int) + 1 < 0) = False := by simp; omega
      have n2 : ((rl.length : Int) + 1 < 0) = False := by simp; omega
      go_wp2_with fail
      refine (l_markFrame d s _ _ _ l t x _ hIx (by omega)).mono ?_
      rintro e w12 ⟨rfl, hIn, hgm⟩
      clear a0 a1 a2 a3 a4 az wb0 wb1 wb2 wb3 wb4 wbz x0 x1 x2 x3 x4 xz gb0 gb1 gb2 gb3 gb4 gbz
      replace hA := hA.by hgm (fun k hk => by have := hIx.at' k hk; omega)
      replace hIa := hIa.by hgm (fun k hk => by have := hIx.at' k hk; omega)
      replace hWb := hWb.by hgm (fun k hk => by have := hIx.at' k hk; omega)
      replace hX := hX.by hgm (fun k hk => by have := hIx.at' k hk; omega)
      replace hIg := hIg.by hgm (fun k hk => by have := hIx.at' k hk; omega)
      replace hGb := hGb.by hgm (fun k hk => by have := hIx.at' k hk; omega)
      replace hB := hB.trans (grownBy_below hgm hB.size (fun k hk => by have := hIx.at' k hk; omega))
      have sw12 := hgm.size
      replace hIx := hIn
      clear hgm hIn
      have a0 := hA.2 0 _ rfl
      have a1 := hA.2 1 _ rfl
      have a2 := hA.2 2 _ rfl
      have a3 := hA.2 3 _ rfl
      have a4 := hA.2 4 _ rfl
      have az := hA.1
      have wb0 := hWb.2 0 _ rfl
      have wb1 := hWb.2 1 _ rfl
      have wb2 := hWb.2 2 _ rfl
      have wb3 := hWb.2 3 _ rfl
      have wb4 := hWb.2 4 _ rfl
      have wbz := hWb.1
      have x0 := hX.2 0 _ rfl
      have x1 := hX.2 1 _ rfl
      have x2 := hX.2 2 _ rfl
      have x3 := hX.2 3 _ rfl
      have x4 := hX.2 4 _ rfl
      have xz := hX.1
      have gb0 := hGb.2 0 _ rfl
      have gb1 := hGb.2 1 _ rfl
      have gb2 := hGb.2 2 _ rfl
      have gb3 := hGb.2 3 _ rfl
      have gb4 := hGb.2 4 _ rfl
      have gbz := hGb.1
      go_wp2_with fail
      refine (l_eqFrame rd rs _ _ _ _ rl rt rx _ hIg.own.src.ints.2 hIa.own.src.ints.2 (by omega)).mono ?_
      rintro e w13 ⟨rfl, hb13⟩
      clear a0 a1 a2 a3 a4 az wb0 wb1 wb2 wb3 wb4 wbz x0 x1 x2 x3 x4 xz gb0 gb1 gb2 gb3 gb4 gbz
      replace hA := hA.below hb13
      replace hIa := hIa.below hb13 hIa.le
      replace hWb := hWb.below hb13
      replace hIx := hIx.below hb13 hIx.le
      replace hX := hX.below hb13
      replace hIg := hIg.below hb13 hIg.le
      replace hGb := hGb.below hb13
      replace hB := hB.trans (hb13.mono hB.size)
      have s13 := hb13.size
      clear hb13
      have a0 := hA.2 0 _ rfl
      have a1 := hA.2 1 _ rfl
      have a2 := hA.2 2 _ rfl
      have a3 := hA.2 3 _ rfl
      have a4 := hA.2 4 _ rfl
      have az := hA.1
      have wb0 := hWb.2 0 _ rfl
      have wb1 := hWb.2 1 _ rfl
      have wb2 := hWb.2 2 _ rfl
      have wb3 := hWb.2 3 _ rfl
      have wb4 := hWb.2 4 _ rfl
      have wbz := hWb.1
      have x0 := hX.2 0 _ rfl
      have x1 := hX.2 1 _ rfl
      have x2 := hX.2 2 _ rfl
      have x3 := hX.2 3 _ rfl
      have x4 := hX.2 4 _ rfl
      have xz := hX.1
      have gb0 := hGb.2 0 _ rfl
      have gb1 := hGb.2 1 _ rfl
      have gb2 := hGb.2 2 _ rfl
      have gb3 := hGb.2 3 _ rfl
      have gb4 := hGb.2 4 _ rfl
      have gbz := hGb.1
      go_wp2_with fail
      refine (l_markFrame rd rs _ _ _ rl rt rx _ hIg (by omega)).mono ?_
      rintro e w14 ⟨rfl, hIn, hgm⟩
      clear a0 a1 a2 a3 a4 az wb0 wb1 wb2 wb3 wb4 wbz x0 x1 x2 x3 x4 xz gb0 gb1 gb2 gb3 gb4 gbz
      replace hA := hA.by hgm (fun k hk => by have := hIg.at' k hk; omega)
      replace hIa := hIa.by hgm (fun k hk => by have := hIg.at' k hk; omega)
      replace hWb := hWb.by hgm (fun k hk => by have := hIg.at' k hk; omega)
      replace hIx := hIx.by hgm (fun k hk => by have := hIg.at' k hk; omega)
      replace hX := hX.by hgm (fun k hk => by have := hIg.at' k hk; omega)
      replace hGb := hGb.by hgm (fun k hk => by have := hIg.at' k hk; omega)
      replace hB := hB.trans (grownBy_below hgm hB.size (fun k hk => by have := hIg.at' k hk; omega))
      have sw14 := hgm.size
      replace hIg := hIn
      clear hgm hIn
      have a0 := hA.2 0 _ rfl
      have a1 := hA.2 1 _ rfl
      have a2 := hA.2 2 _ rfl
      have a3 := hA.2 3 _ rfl
      have a4 := hA.2 4 _ rfl
      have az := hA.1
      have wb0 := hWb.2 0 _ rfl
      have wb1 := hWb.2 1 _ rfl
      have wb2 := hWb.2 2 _ rfl
      have wb3 := hWb.2 3 _ rfl
      have wb4 := hWb.2 4 _ rfl
      have wbz := hWb.1
      have x0 := hX.2 0 _ rfl
      have x1 := hX.2 1 _ rfl
      have x2 := hX.2 2 _ rfl
      have x3 := hX.2 3 _ rfl
      have x4 := hX.2 4 _ rfl
      have xz := hX.1
      have gb0 := hGb.2 0 _ rfl
      have gb1 := hGb.2 1 _ rfl
      have gb2 := hGb.2 2 _ rfl
      have gb3 := hGb.2 3 _ rfl
      have gb4 := hGb.2 4 _ rfl
      have gbz := hGb.1
      go_wp2_with fail
      refine (l_heldFrame rd rs _ _ _ _ rt rx _ hIg (by omega)).mono ?_
      rintro e w15 ⟨rfl, hb15⟩
      clear a0 a1 a2 a3 a4 az wb0 wb1 wb2 wb3 wb4 wbz x0 x1 x2 x3 x4 xz gb0 gb1 gb2 gb3 gb4 gbz
      replace hA := hA.below hb15
      replace hIa := hIa.below hb15 hIa.le
      replace hWb := hWb.below hb15
      replace hIx := hIx.below hb15 hIx.le
      replace hX := hX.below hb15
      replace hIg := hIg.below hb15 hIg.le
      replace hGb := hGb.below hb15
      replace hB := hB.trans (hb15.mono hB.size)
      have s15 := hb15.size
      clear hb15
      have a0 := hA.2 0 _ rfl
      have a1 := hA.2 1 _ rfl
      have a2 := hA.2 2 _ rfl
      have a3 := hA.2 3 _ rfl
      have a4 := hA.2 4 _ rfl
      have az := hA.1
      have wb0 := hWb.2 0 _ rfl
      have wb1 := hWb.2 1 _ rfl
      have wb2 := hWb.2 2 _ rfl
      have wb3 := hWb.2 3 _ rfl
      have wb4 := hWb.2 4 _ rfl
      have wbz := hWb.1
      have x0 := hX.2 0 _ rfl
      have x1 := hX.2 1 _ rfl
      have x2 := hX.2 2 _ rfl
      have x3 := hX.2 3 _ rfl
      have x4 := hX.2 4 _ rfl
      have xz := hX.1
      have gb0 := hGb.2 0 _ rfl
      have gb1 := hGb.2 1 _ rfl
      have gb2 := hGb.2 2 _ rfl
      have gb3 := hGb.2 3 _ rfl
      have gb4 := hGb.2 4 _ rfl
      have gbz := hGb.1
      go_wp2_with fail
      refine (l_toFrame d s T c l t x _ (h.below hB) (by omega)).mono ?_
      rintro e w16 ⟨g4, rfl, ho4, hb16⟩
      clear a0 a1 a2 a3 a4 az wb0 wb1 wb2 wb3 wb4 wbz x0 x1 x2 x3 x4 xz gb0 gb1 gb2 gb3 gb4 gbz
      replace hA := hA.below hb16
      replace hIa := hIa.below hb16 hIa.le
      replace hWb := hWb.below hb16
      replace hIx := hIx.below hb16 hIx.le
      replace hX := hX.below hb16
      replace hIg := hIg.below hb16 hIg.le
      replace hGb := hGb.below hb16
      replace hB := hB.trans (hb16.mono hB.size)
      have s16 := hb16.size
      clear hb16
      go_wp2_with fail
      refine (CI.out w16 _ _ ho4.src (Nat.le_refl _)).mono ?_
      rintro e w17 ⟨vh, rfl, hoh, hb17⟩
      obtain ⟨Th, ch, rfl⟩ := hoh.form
      have hIh := hoh.in
      replace hA := hA.below hb17
      replace hIa := hIa.below hb17 hIa.le
      replace hWb := hWb.below hb17
      replace hIx := hIx.below hb17 hIx.le
      replace hX := hX.below hb17
      replace hIg := hIg.below hb17 hIg.le
      replace hGb := hGb.below hb17
      replace hB := hB.trans (hb17.mono hB.size)
      have s17 := hb17.size
      clear hb17 hoh ho4
      have a0 := hA.2 0 _ rfl
      have a1 := hA.2 1 _ rfl
      have a2 := hA.2 2 _ rfl
      have a3 := hA.2 3 _ rfl
      have a4 := hA.2 4 _ rfl
      have az := hA.1
      have wb0 := hWb.2 0 _ rfl
      have wb1 := hWb.2 1 _ rfl
      have wb2 := hWb.2 2 _ rfl
      have wb3 := hWb.2 3 _ rfl
      have wb4 := hWb.2 4 _ rfl
      have wbz := hWb.1
      have x0 := hX.2 0 _ rfl
      have x1 := hX.2 1 _ rfl
      have x2 := hX.2 2 _ rfl
      have x3 := hX.2 3 _ rfl
      have x4 := hX.2 4 _ rfl
      have xz := hX.1
      have gb0 := hGb.2 0 _ rfl
      have gb1 := hGb.2 1 _ rfl
      have gb2 := hGb.2 2 _ rfl
      have gb3 := hGb.2 3 _ rfl
      have gb4 := hGb.2 4 _ rfl
      have gbz := hGb.1
      go_wp2_with fail
      clear a0 a1 a2 a3 a4 az wb0 wb1 wb2 wb3 wb4 wbz x0 x1 x2 x3 x4 xz gb0 gb1 gb2 gb3 gb4 gbz
      have hbn : Below w17.heap.size w17 (w17.alloc (.cells #[.int .i64 rd, .int .i64 rs, .slice Th rl.length ch, .int .i64 rt, .string rx] 26)) := (Below.refl _ _).alloc (Nat.le_refl _) _
      replace hA := hA.below hbn
      replace hIa := hIa.below hbn hIa.le
      replace hWb := hWb.below hbn
      replace hIx := hIx.below hbn hIx.le
      replace hX := hX.below hbn
      replace hIg := hIg.below hbn hIg.le
      replace hGb := hGb.below hbn
      replace hIh := hIh.below hbn hIh.le
      replace hB := hB.trans (hbn.mono hB.size)
      have hCb := Box.new w17 #[.int .i64 rd, .int .i64 rs, .slice Th rl.length ch, .int .i64 rt, .string rx] 26
      obtain ⟨w18, hw18⟩ : ∃ u, u = w17.alloc (.cells #[.int .i64 rd, .int .i64 rs, .slice Th rl.length ch, .int .i64 rt, .string rx] 26) := ⟨_, rfl⟩
      have sw18 : w18.heap.size = w17.heap.size + 1 := by rw [hw18]; simp
      rw [← hw18] at hA hIa hWb hIx hX hIg hGb hIh hCb hB
      clear hbn
      rw [← hw18]
      clear hw18
      refine (l_eqFrame rd rs _ _ _ _ rl rt rx _ hIh.own.src.ints.2 hIa.own.src.ints.2 (by omega)).mono ?_
      rintro e w19 ⟨rfl, hb19⟩
      replace hA := hA.below hb19
      replace hIa := hIa.below hb19 hIa.le
      replace hWb := hWb.below hb19
      replace hIg := hIg.below hb19 hIg.le
      replace hGb := hGb.below hb19
      replace hIh := hIh.below hb19 hIh.le
      replace hCb := hCb.below hb19
      replace hB := hB.trans (hb19.mono hB.size)
      have s19 := hb19.size
      clear hb19
      have a0 := hA.2 0 _ rfl
      have a1 := hA.2 1 _ rfl
      have a2 := hA.2 2 _ rfl
      have a3 := hA.2 3 _ rfl
      have a4 := hA.2 4 _ rfl
      have az := hA.1
      have wb0 := hWb.2 0 _ rfl
      have wb1 := hWb.2 1 _ rfl
      have wb2 := hWb.2 2 _ rfl
      have wb3 := hWb.2 3 _ rfl
      have wb4 := hWb.2 4 _ rfl
      have wbz := hWb.1
      have gb0 := hGb.2 0 _ rfl
      have gb1 := hGb.2 1 _ rfl
      have gb2 := hGb.2 2 _ rfl
      have gb3 := hGb.2 3 _ rfl
      have gb4 := hGb.2 4 _ rfl
      have gbz := hGb.1
      have cb0 := hCb.2 0 _ rfl
      have cb1 := hCb.2 1 _ rfl
      have cb2 := hCb.2 2 _ rfl
      have cb3 := hCb.2 3 _ rfl
      have cb4 := hCb.2 4 _ rfl
      have cbz := hCb.1
      go_wp2_with fail
      refine (l_heldFrame rd rs _ _ _ _ rt rx _ hIg (by omega)).mono ?_
      rintro e w20 ⟨rfl, hb20⟩
      clear a0 a1 a2 a3 a4 az wb0 wb1 wb2 wb3 wb4 wbz gb0 gb1 gb2 gb3 gb4 gbz cb0 cb1 cb2 cb3 cb4 cbz
      replace hA := hA.below hb20
      replace hIa := hIa.below hb20 hIa.le
      replace hWb := hWb.below hb20
      replace hIg := hIg.below hb20 hIg.le
      replace hGb := hGb.below hb20
      replace hIh := hIh.below hb20 hIh.le
      replace hCb := hCb.below hb20
      replace hB := hB.trans (hb20.mono hB.size)
      clear hb20
      go_wp2
      go_ret
      exact ⟨rfl, hB⟩
end Go.Proofs.Ytlfdpepeanlhlab
