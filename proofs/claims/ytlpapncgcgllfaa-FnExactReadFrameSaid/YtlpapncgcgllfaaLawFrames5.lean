/-
  The walk of the exact law FnExactReadFrame.
-/
import Derived.Test.YtlpapncgcgllfaaRead5
import Derived.Deep.RegionWith
namespace Go.Proofs.Ytlpapncgcgllfaa
open Go.RowKit Go.PlainAid
set_option maxRecDepth 100000 in
set_option maxHeartbeats 6400000 in
theorem walk_FnExactReadFrame (s : ByteArray) (hx : s.size ≤ maxLen) (w : World) :
    Calls Try.prog 3 #[.string s] w fun e w' => e = .returned (.bool true) ∧ Below w.heap.size w w' := by
  unfold maxLen at hx
  by_cases hz : (1048576 : Int) < s.size
  · go_enter Try.func3, Try.ntmps3
    go_wp2
    go_ret
    exact ⟨rfl, Below.refl _ _⟩
  · obtain ⟨r, hr⟩ : ∃ r, r = rdFr s := ⟨_, rfl⟩
    obtain ⟨ok, hok⟩ : ∃ o, o = rdOk s := ⟨_, rfl⟩
    have hrl : r.l.length ≤ 2 := by rw [hr]; unfold rdFr; split; exact rdR_len s; simp
    have CS : Hid (∀ u : World, Calls Try.prog 7 #[.string s] u fun e w' => ∃ (v : Value), e = .returned (.tuple #[.agg #[.int .i64 r.d, .int .i64 r.s, v, .int .i64 r.t, .string r.x], .bool ok]) ∧ ownI w' u.heap.size v r.l ∧ Below u.heap.size u w') := by
      intro u
      rw [hr, hok]
      exact s_ReadFrame s u (by omega)
    have CI : Hid (∀ u : World, Calls Try.prog 8 #[.string s] u fun e w' => ∃ (v : Value), e = .returned (.tuple #[.agg #[.int .i64 r.d, .int .i64 r.s, v, .int .i64 r.t, .string r.x], .bool ok]) ∧ ownI w' u.heap.size v r.l ∧ Below u.heap.size u w') := by
      intro u
      rw [hr, hok]
      exact i_ReadFrame s u (by omega)
    clear hr hok
    obtain ⟨rd, rs, rl, rt, rx⟩ := r
    simp only at hrl CS CI
    have n2 : ((rl.length : Int) + 1 < 0) = False := by simp; omega
    have hz' : ¬ (1048576 : Int) < s.size := hz
    go_enter Try.func3, Try.ntmps3
    go_wp2_with fail
    refine (CS.out w).mono ?_
    rintro e w3 ⟨va, rfl, hoa, hB⟩
    obtain ⟨Ta, ca, rfl⟩ := hoa.form
    have hIa := hoa.in
    have s3 := hB.size
    clear hoa
    go_wp2_with fail
    have hbn : Below w3.heap.size w3 (w3.alloc (.cells #[.int .i64 rd, .int .i64 rs, .slice Ta rl.length ca, .int .i64 rt, .string rx] 24)) := (Below.refl _ _).alloc (Nat.le_refl _) _
    replace hIa := hIa.below hbn hIa.le
    replace hB := hB.trans (hbn.mono hB.size)
    have hWb := Box.new w3 #[.int .i64 rd, .int .i64 rs, .slice Ta rl.length ca, .int .i64 rt, .string rx] 24
    obtain ⟨w4, hw4⟩ : ∃ u, u = w3.alloc (.cells #[.int .i64 rd, .int .i64 rs, .slice Ta rl.length ca, .int .i64 rt, .string rx] 24) := ⟨_, rfl⟩
    have sw4 : w4.heap.size = w3.heap.size + 1 := by rw [hw4]; simp
    rw [← hw4] at hIa hWb hB
    clear hbn
    rw [← hw4]
    clear hw4
    refine (CI.out w4).mono ?_
    rintro e w7 ⟨vg, rfl, hog, hb7⟩
    obtain ⟨Tg, cg, rfl⟩ := hog.form
    have hIg := hog.in
    replace hIa := hIa.below hb7 hIa.le
    replace hWb := hWb.below hb7
    replace hB := hB.trans (hb7.mono hB.size)
    have s7 := hb7.size
    clear hb7 hog
    have wb0 := hWb.2 0 _ rfl
    have wb1 := hWb.2 1 _ rfl
    have wb2 := hWb.2 2 _ rfl
    have wb3 := hWb.2 3 _ rfl
    have wb4 := hWb.2 4 _ rfl
    have wbz := hWb.1
    go_wp2_with fail
    clear wb0 wb1 wb2 wb3 wb4 wbz
    have hbn : Below w7.heap.size w7 (w7.alloc (.cells #[.int .i64 rd, .int .i64 rs, .slice Tg rl.length cg, .int .i64 rt, .string rx] 24)) := (Below.refl _ _).alloc (Nat.le_refl _) _
    replace hIa := hIa.below hbn hIa.le
    replace hWb := hWb.below hbn
    replace hIg := hIg.below hbn hIg.le
    replace hB := hB.trans (hbn.mono hB.size)
    have hGb := Box.new w7 #[.int .i64 rd, .int .i64 rs, .slice Tg rl.length cg, .int .i64 rt, .string rx] 24
    obtain ⟨w8, hw8⟩ : ∃ u, u = w7.alloc (.cells #[.int .i64 rd, .int .i64 rs, .slice Tg rl.length cg, .int .i64 rt, .string rx] 24) := ⟨_, rfl⟩
    have sw8 : w8.heap.size = w7.heap.size + 1 := by rw [hw8]; simp
    rw [← hw8] at hIa hWb hIg hGb hB
    clear hbn
    rw [← hw8]
    clear hw8
    refine (l_eqFrame rd rs _ _ _ _ rl rt rx _ hIg.own.src.ints.2 hIa.own.src.ints.2 (by omega)).mono ?_
    rintro e w9 ⟨rfl, hb9⟩
    replace hIa := hIa.below hb9 hIa.le
    replace hWb := hWb.below hb9
    replace hIg := hIg.below hb9 hIg.le
    replace hGb := hGb.below hb9
    replace hB := hB.trans (hb9.mono hB.size)
    have s9 := hb9.size
    clear hb9
    have wb0 := hWb.2 0 _ rfl
    have wb1 := hWb.2 1 _ rfl
    have wb2 := hWb.2 2 _ rfl
    have wb3 := hWb.2 3 _ rfl
    have wb4 := hWb.2 4 _ rfl
    have wbz := hWb.1
    have gb0 := hGb.2 0 _ rfl
    have gb1 := hGb.2 1 _ rfl
    have gb2 := hGb.2 2 _ rfl
    have gb3 := hGb.2 3 _ rfl
    have gb4 := hGb.2 4 _ rfl
    have gbz := hGb.1
    go_wp2_with fail
    refine (l_markFrame rd rs _ _ _ rl rt rx _ hIg (by omega)).mono ?_
    rintro e w14 ⟨rfl, hIn, hgm⟩
    clear wb0 wb1 wb2 wb3 wb4 wbz gb0 gb1 gb2 gb3 gb4 gbz
    replace hIa := hIa.by hgm (fun k hk => by have := hIg.at' k hk; omega)
    replace hWb := hWb.by hgm (fun k hk => by have := hIg.at' k hk; omega)
    replace hGb := hGb.by hgm (fun k hk => by have := hIg.at' k hk; omega)
    replace hB := hB.trans (grownBy_below hgm hB.size (fun k hk => by have := hIg.at' k hk; omega))
    have s14 := hgm.size
    replace hIg := hIn
    clear hgm hIn
    have wb0 := hWb.2 0 _ rfl
    have wb1 := hWb.2 1 _ rfl
    have wb2 := hWb.2 2 _ rfl
    have wb3 := hWb.2 3 _ rfl
    have wb4 := hWb.2 4 _ rfl
    have wbz := hWb.1
    have gb0 := hGb.2 0 _ rfl
    have gb1 := hGb.2 1 _ rfl
    have gb2 := hGb.2 2 _ rfl
    have gb3 := hGb.2 3 _ rfl
    have gb4 := hGb.2 4 _ rfl
    have gbz := hGb.1
    go_wp2_with fail
    refine (l_heldFrame rd rs _ _ _ _ rt rx _ hIg (by omega)).mono ?_
    rintro e w15 ⟨rfl, hb15⟩
    clear wb0 wb1 wb2 wb3 wb4 wbz gb0 gb1 gb2 gb3 gb4 gbz
    replace hIa := hIa.below hb15 hIa.le
    replace hWb := hWb.below hb15
    replace hIg := hIg.below hb15 hIg.le
    replace hGb := hGb.below hb15
    replace hB := hB.trans (hb15.mono hB.size)
    have s15 := hb15.size
    clear hb15
    have wb0 := hWb.2 0 _ rfl
    have wb1 := hWb.2 1 _ rfl
    have wb2 := hWb.2 2 _ rfl
    have wb3 := hWb.2 3 _ rfl
    have wb4 := hWb.2 4 _ rfl
    have wbz := hWb.1
    have gb0 := hGb.2 0 _ rfl
    have gb1 := hGb.2 1 _ rfl
    have gb2 := hGb.2 2 _ rfl
    have gb3 := hGb.2 3 _ rfl
    have gb4 := hGb.2 4 _ rfl
    have gbz := hGb.1
    go_wp2_with fail
    refine (CI.out w15).mono ?_
    rintro e w17 ⟨vh, rfl, hoh, hb17⟩
    obtain ⟨Th, ch, rfl⟩ := hoh.form
    have hIh := hoh.in
    clear wb0 wb1 wb2 wb3 wb4 wbz gb0 gb1 gb2 gb3 gb4 gbz
    replace hIa := hIa.below hb17 hIa.le
    replace hWb := hWb.below hb17
    replace hIg := hIg.below hb17 hIg.le
    replace hGb := hGb.below hb17
    replace hB := hB.trans (hb17.mono hB.size)
    have s17 := hb17.size
    clear hb17 hoh
    have wb0 := hWb.2 0 _ rfl
    have wb1 := hWb.2 1 _ rfl
    have wb2 := hWb.2 2 _ rfl
    have wb3 := hWb.2 3 _ rfl
    have wb4 := hWb.2 4 _ rfl
    have wbz := hWb.1
    have gb0 := hGb.2 0 _ rfl
    have gb1 := hGb.2 1 _ rfl
    have gb2 := hGb.2 2 _ rfl
    have gb3 := hGb.2 3 _ rfl
    have gb4 := hGb.2 4 _ rfl
    have gbz := hGb.1
    go_wp2_with fail
    clear wb0 wb1 wb2 wb3 wb4 wbz gb0 gb1 gb2 gb3 gb4 gbz
    have hbn : Below w17.heap.size w17 (w17.alloc (.cells #[.int .i64 rd, .int .i64 rs, .slice Th rl.length ch, .int .i64 rt, .string rx] 24)) := (Below.refl _ _).alloc (Nat.le_refl _) _
    replace hIa := hIa.below hbn hIa.le
    replace hWb := hWb.below hbn
    replace hIg := hIg.below hbn hIg.le
    replace hGb := hGb.below hbn
    replace hIh := hIh.below hbn hIh.le
    replace hB := hB.trans (hbn.mono hB.size)
    have hCb := Box.new w17 #[.int .i64 rd, .int .i64 rs, .slice Th rl.length ch, .int .i64 rt, .string rx] 24
    obtain ⟨w18, hw18⟩ : ∃ u, u = w17.alloc (.cells #[.int .i64 rd, .int .i64 rs, .slice Th rl.length ch, .int .i64 rt, .string rx] 24) := ⟨_, rfl⟩
    have sw18 : w18.heap.size = w17.heap.size + 1 := by rw [hw18]; simp
    rw [← hw18] at hIa hWb hIg hGb hIh hCb hB
    clear hbn
    rw [← hw18]
    clear hw18
    refine (l_eqFrame rd rs _ _ _ _ rl rt rx _ hIh.own.src.ints.2 hIa.own.src.ints.2 (by omega)).mono ?_
    rintro e w19 ⟨rfl, hb19⟩
    replace hIa := hIa.below hb19 hIa.le
    replace hWb := hWb.below hb19
    replace hIg := hIg.below hb19 hIg.le
    replace hGb := hGb.below hb19
    replace hIh := hIh.below hb19 hIh.le
    replace hCb := hCb.below hb19
    replace hB := hB.trans (hb19.mono hB.size)
    have s19 := hb19.size
    clear hb19
    have wb0 := hWb.2 0 _ rfl
    have wb1 := hWb.2 1 _ rfl
    have wb2 := hWb.2 2 _ rfl
    have wb3 := hWb.2 3 _ rfl
    have wb4 := hWb.2 4 _ rfl
    have wbz := hWb.1
    have gb0 := hGb.2 0 _ rfl
    have gb1 := hGb.2 1 _ rfl
    have gb2 := hGb.2 2 _ rfl
    have gb3 := hGb.2 3 _ rfl
    have gb4 := hGb.2 4 _ rfl
    have gbz := hGb.1
    have cb0 := hCb.2 0 _ rfl
    have cb1 := hCb.2 1 _ rfl
    have cb2 := hCb.2 2 _ rfl
    have cb3 := hCb.2 3 _ rfl
    have cb4 := hCb.2 4 _ rfl
    have cbz := hCb.1
    go_wp2_with fail
    refine (l_heldFrame rd rs _ _ _ _ rt rx _ hIg (by omega)).mono ?_
    rintro e w20 ⟨rfl, hb20⟩
    clear wb0 wb1 wb2 wb3 wb4 wbz gb0 gb1 gb2 gb3 gb4 gbz cb0 cb1 cb2 cb3 cb4 cbz
    replace hIa := hIa.below hb20 hIa.le
    replace hWb := hWb.below hb20
    replace hIg := hIg.below hb20 hIg.le
    replace hGb := hGb.below hb20
    replace hIh := hIh.below hb20 hIh.le
    replace hCb := hCb.below hb20
    replace hB := hB.trans (hb20.mono hB.size)
    clear hb20
    go_wp2
    go_ret
    exact ⟨rfl, hB⟩
end Go.Proofs.Ytlpapncgcgllfaa
