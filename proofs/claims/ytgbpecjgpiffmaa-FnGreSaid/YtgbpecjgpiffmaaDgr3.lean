/-
  The law on GREs: one comes back from its bytes; what is read, written again, is the same.
-/
import Derived.Test.YtgbpecjgpiffmaaDgr
import Derived.Test.YtgbpecjgpiffmaaDgr2
import Derived.Test.YtgbpecjgpiffmaaGre6
import Derived.Laws.StructEq
namespace Go.Proofs.Ytgbpecjgpiffmaa
open Go.RowKit Go.PlainAid
theorem Try.greGuard : Try.prog.eqGuardType Try.prog.depth 23 = false := by kernel_rfl
theorem greNeq (g : GrV) (w : World) : (binOp .neq 23 (.agg (grL g)) (.agg (grL g))).run Try.prog w = .ok (.bool false) w := by
  obtain ⟨a, b, x, c, y, d⟩ := g
  simp only [grL]
  rw [run_neq_struct, run_equalIn_agg w 9999 _ _ _ (by kernel_rfl) (by kernel_rfl)]
  simp only [Program.fieldsOf, Try.underlying23]
  simp only [Op.eqFields]
  simp [go_sem, part, run_equalIn_int _ _ _ _ _ _ _ Try.underlying2, run_equalIn_bool _ _ _ _ _ Try.underlying4, run_equalIn_string _ _ _ _ _ Try.underlying9]
theorem greEql (g : GrV) (w : World) : (binOp .eql 23 (.agg (grL g)) (.agg (grL g))).run Try.prog w = .ok (.bool true) w := by
  obtain ⟨a, b, x, c, y, d⟩ := g
  simp only [grL]
  rw [run_eql_struct, run_equalIn_agg w 9999 _ _ _ (by kernel_rfl) (by kernel_rfl)]
  simp only [Program.fieldsOf, Try.underlying23]
  simp only [Op.eqFields]
  simp [go_sem, part, run_equalIn_int _ _ _ _ _ _ _ Try.underlying2, run_equalIn_bool _ _ _ _ _ Try.underlying4, run_equalIn_string _ _ _ _ _ Try.underlying9]
set_option maxRecDepth 100000 in
set_option maxHeartbeats 6400000 in
theorem walk_FnGre (C : Option Addr) (len cap : Nat) (zs : List Int) (w : World) (w0 : IsRow .u8 w C len cap zs) :
    Calls Try.prog 6 #[.slice C len cap] w fun e w' => e = .returned (.bool true) ∧ Below w.heap.size w w' := by
  have hl := row_len w0
  by_cases hz : 1048576 < len
  · go_enter Try.func6, Try.ntmps6
    go_wp2
    go_ret
    exact ⟨rfl, Below.refl _ _⟩
  · have hC := code_of_row w0 (by omega)
    clear w0
    go_enter Try.func6, Try.ntmps6
    go_wp2_with fail
    refine (big_no _ _ _ _ (by omega)).mono ?_
    rintro e w' ⟨rfl, hw'⟩
    rw [hw']
    clear hw' w'
    go_wp2_with fail
    refine (d_GreBytes _ C len cap _ hC).mono ?_
    rintro e w1 ⟨g, rfl, hk, hs, hd, hB⟩
    have hle := grText_le g (grSum g)
    have hsz : (str (grText g (grSum g))).size ≤ 65200 := by rw [str_size]; omega
    have CI : Hid (∀ v : World, Calls Try.prog 24 #[.agg (grL g)] v fun e w' => e = .returned (.string (str (grText g (grSum g)))) ∧ Below v.heap.size v w') := fun v => i_GreBytes g v hk hs (by omega)
    have CS : Hid (∀ v : World, Calls Try.prog 26 #[.agg (grL g)] v fun e w' => e = .returned (.string (str (grText g (grSum g)))) ∧ Below v.heap.size v w') := fun v => s_GreBytes g v (by omega)
    have CR : Hid (∀ v : World, Calls Try.prog 11 #[.string (str (grText g (grSum g)))] v fun e w' => e = .returned (.tuple #[.agg (grL (grR (str (grText g (grSum g))))), .int .i64 (grC (str (grText g (grSum g))))]) ∧ Below v.heap.size v w') := fun v => i_ReadGre _ v (by omega)
    have HY : Hid ((grOk g && carB g.data) = true → grC (str (grText g (grSum g))) = 0 ∧ grR (str (grText g (grSum g))) = g ∧ ¬ str (grText g (grSum g)) = ⟨#[]⟩) := fun h => gr_back h
    have HN : Hid ((grOk g && carB g.data) = false → str (grText g (grSum g)) = ⟨#[]⟩) := fun h => gr_none _ h
    have HE : Hid (∀ v : World, (binOp .eql 23 (.agg (grL g)) (.agg (grL g))).run Try.prog v = .ok (.bool true) v) := fun v => greEql g v
    have hA := Bx.new w1 (grL g) 23
    have hB1 := hB.alloc hB.size (.cells (grL g) 23)
    clear hle hsz hk hs hd
    generalize str (grText g (grSum g)) = s at *
    generalize hok : (grOk g && carB g.data) = ok at *
    clear hok hB
    have HG : Hid (∃ g0 : GrV, g0 = g) := ⟨g, rfl⟩
    obtain ⟨ga, gb, gk, gc, gs, gd⟩ := g
    simp only [grL] at hA hB1 CI CS HE ⊢
    go_wp2_with fail
    generalize hW : w1.alloc _ = w2 at *
    clear hW
    generalize w1.heap.size = b3 at *
    refine (CI.out _).mono ?_
    rintro e w3 ⟨rfl, hX⟩
    replace hA := hA.below hX
    replace hB1 := hB1.trans (hX.mono hB1.size)
    clear hX CI
    have hC3 := hC.below hB1
    go_wp2_with fail
    refine (d_ReadGre _ C len cap _ hC3).mono ?_
    rintro e w4 ⟨t, rfl, ht, hX⟩
    replace hA := hA.below hX
    replace hB1 := hB1.trans (hX.mono hB1.size)
    clear hX hC3
    have DI : Hid (∀ v : World, Calls Try.prog 11 #[.string t] v fun e w' => e = .returned (.tuple #[.agg (grL (grR t)), .int .i64 (grC t)]) ∧ Below v.heap.size v w') := fun v => i_ReadGre t v (by omega)
    have DS : Hid (∀ v : World, Calls Try.prog 10 #[.string t] v fun e w' => e = .returned (.tuple #[.agg (grL (grR t)), .int .i64 (grC t)]) ∧ Below v.heap.size v w') := fun v => s_ReadGre t v (by omega)
    have DA : Hid (grC t = 0 → ∀ v : World, Calls Try.prog 24 #[.agg (grL (grR t))] v fun e w' => e = .returned (.string t) ∧ Below v.heap.size v w') := fun h v => by
      obtain ⟨q1, q2, q3, q4⟩ := gr_again h
      have := i_GreBytes (grR t) v q3 q4 (by omega)
      rw [q1] at this; exact this
    have DN : Hid (∀ v : World, (binOp .neq 23 (.agg (grL (grR t))) (.agg (grL (grR t)))).run Try.prog v = .ok (.bool false) v) := fun v => greNeq _ v
    generalize grC t = k at *
    generalize grR t = x at *
    obtain ⟨xa, xb, xk, xc, xs, xd⟩ := x
    simp only [grL] at DI DS DA DN
    go_wp2_with fail
    refine (DI.out _).mono ?_
    rintro e w5 ⟨rfl, hX⟩
    replace hA := hA.below hX
    replace hB1 := hB1.trans (hX.mono hB1.size)
    clear hX DI
    have hU := Bx.new w5 #[.bool xa, .bool xb, .int .i64 xk, .bool xc, .int .i64 xs, .string xd] 23
    replace hA := hA.below ((Below.refl _ w5).alloc (Nat.le_refl _) (.cells #[.bool xa, .bool xb, .int .i64 xk, .bool xc, .int .i64 xs, .string xd] 23))
    replace hB1 := hB1.alloc hB1.size (.cells #[.bool xa, .bool xb, .int .i64 xk, .bool xc, .int .i64 xs, .string xd] 23)
    go_wp2_with fail
    generalize hW : w5.alloc _ = w6 at *
    clear hW
    generalize w5.heap.size = b6 at *
    refine (DS.out _).mono ?_
    rintro e w7 ⟨rfl, hX⟩
    replace hA := hA.below hX
    replace hU := hU.below hX
    replace hB1 := hB1.trans (hX.mono hB1.size)
    clear hX DS
    have hV := Bx.new w7 #[.bool xa, .bool xb, .int .i64 xk, .bool xc, .int .i64 xs, .string xd] 23
    replace hA := hA.below ((Below.refl _ w7).alloc (Nat.le_refl _) (.cells #[.bool xa, .bool xb, .int .i64 xk, .bool xc, .int .i64 xs, .string xd] 23))
    replace hU := hU.below ((Below.refl _ w7).alloc (Nat.le_refl _) (.cells #[.bool xa, .bool xb, .int .i64 xk, .bool xc, .int .i64 xs, .string xd] 23))
    replace hB1 := hB1.alloc hB1.size (.cells #[.bool xa, .bool xb, .int .i64 xk, .bool xc, .int .i64 xs, .string xd] 23)
    have e1 : (k != k) = false := by simp
    have gq := Try.greGuard
    have a0 := hA.2 0 _ rfl
    have a1 := hA.2 1 _ rfl
    have a2 := hA.2 2 _ rfl
    have a3 := hA.2 3 _ rfl
    have a4 := hA.2 4 _ rfl
    have a5 := hA.2 5 _ rfl
    go_wp2_with fail
    generalize hW : w7.alloc _ = w8 at *
    clear hW
    generalize w7.heap.size = b8 at *
    refine (CS.out _).mono ?_
    rintro e w9 ⟨rfl, hX⟩
    replace hA := hA.below hX
    replace hU := hU.below hX
    replace hV := hV.below hX
    replace hB1 := hB1.trans (hX.mono hB1.size)
    clear hX CS a0 a1 a2 a3 a4 a5
    have DN9 := DN.out w9
    have u0 := hU.2 0 _ rfl
    have u1 := hU.2 1 _ rfl
    have u2 := hU.2 2 _ rfl
    have u3 := hU.2 3 _ rfl
    have u4 := hU.2 4 _ rfl
    have u5 := hU.2 5 _ rfl
    have v0 := hV.2 0 _ rfl
    have v1 := hV.2 1 _ rfl
    have v2 := hV.2 2 _ rfl
    have v3 := hV.2 3 _ rfl
    have v4 := hV.2 4 _ rfl
    have v5 := hV.2 5 _ rfl
    by_cases hk0 : k = 0
    · subst hk0
      have DA2 : Hid (∀ v : World, Calls Try.prog 24 #[.agg #[.bool xa, .bool xb, .int .i64 xk, .bool xc, .int .i64 xs, .string xd]] v fun e w' => e = .returned (.string t) ∧ Below v.heap.size v w') := DA.out rfl
      clear DA
      go_wp2_with fail
      refine (DA2.out _).mono ?_
      rintro e wb ⟨rfl, hX⟩
      replace hA := hA.below hX
      replace hB1 := hB1.trans (hX.mono hB1.size)
      clear hX DN9 DN u0 u1 u2 u3 u4 u5 v0 v1 v2 v3 v4 v5 hU hV
      cases ok
      · have e2 : s.toList = [] := by rw [HN.out rfl]; simp
        clear HN HY HE
        generalize grC s = j at *
        generalize grR s = z at *
        obtain ⟨za, zb, zk, zc, zs, zd⟩ := z
        simp only [grL] at CR
        go_wp2_with fail
        refine (CR.out _).mono ?_
        rintro e wa ⟨rfl, hX⟩
        replace hB1 := hB1.trans (hX.mono hB1.size)
        replace hB1 := hB1.alloc hB1.size (.cells #[.bool za, .bool zb, .int .i64 zk, .bool zc, .int .i64 zs, .string zd] 23)
        clear hX
        go_wp2
        go_ret
        exact ⟨by first | rfl | exact ret_bool (by simp [e2]), hB1⟩
      · obtain ⟨y1, y2, y3⟩ := HY.out rfl
        rw [y1, y2] at CR
        have e2 : ¬ s.toList = [] := fun hh => by have := str_ne y3; rw [hh] at this; simp at this
        clear HN HY y1 y2 y3
        simp only [grL] at CR
        go_wp2_with fail
        refine (CR.out _).mono ?_
        rintro e wa ⟨rfl, hX⟩
        replace hA := hA.below hX
        replace hB1 := hB1.trans (hX.mono hB1.size)
        replace hA := hA.below ((Below.refl _ wa).alloc (Nat.le_refl _) (.cells #[.bool ga, .bool gb, .int .i64 gk, .bool gc, .int .i64 gs, .string gd] 23))
        replace hB1 := hB1.alloc hB1.size (.cells #[.bool ga, .bool gb, .int .i64 gk, .bool gc, .int .i64 gs, .string gd] 23)
        clear hX
        have HE9 := HE.out (wa.alloc (.cells #[.bool ga, .bool gb, .int .i64 gk, .bool gc, .int .i64 gs, .string gd] 23))
        have a0 := hA.2 0 _ rfl
        have a1 := hA.2 1 _ rfl
        have a2 := hA.2 2 _ rfl
        have a3 := hA.2 3 _ rfl
        have a4 := hA.2 4 _ rfl
        have a5 := hA.2 5 _ rfl
        go_wp2
        go_ret
        exact ⟨by first | rfl | exact ret_bool (by simp [e2]), hB1⟩
    · have hk1 : (k == 0) = false := by simp [hk0]
      clear hk0 DA
      cases ok
      · have e2 : s.toList = [] := by rw [HN.out rfl]; simp
        clear HN HY HE
        generalize grC s = j at *
        generalize grR s = z at *
        obtain ⟨za, zb, zk, zc, zs, zd⟩ := z
        simp only [grL] at CR
        go_wp2_with fail
        refine (CR.out _).mono ?_
        rintro e wa ⟨rfl, hX⟩
        replace hB1 := hB1.trans (hX.mono hB1.size)
        replace hB1 := hB1.alloc hB1.size (.cells #[.bool za, .bool zb, .int .i64 zk, .bool zc, .int .i64 zs, .string zd] 23)
        clear hX
        go_wp2
        go_ret
        exact ⟨by first | rfl | exact ret_bool (by simp [e2]), hB1⟩
      · obtain ⟨y1, y2, y3⟩ := HY.out rfl
        rw [y1, y2] at CR
        have e2 : ¬ s.toList = [] := fun hh => by have := str_ne y3; rw [hh] at this; simp at this
        clear HN HY y1 y2 y3
        simp only [grL] at CR
        go_wp2_with fail
        refine (CR.out _).mono ?_
        rintro e wa ⟨rfl, hX⟩
        replace hA := hA.below hX
        replace hB1 := hB1.trans (hX.mono hB1.size)
        replace hA := hA.below ((Below.refl _ wa).alloc (Nat.le_refl _) (.cells #[.bool ga, .bool gb, .int .i64 gk, .bool gc, .int .i64 gs, .string gd] 23))
        replace hB1 := hB1.alloc hB1.size (.cells #[.bool ga, .bool gb, .int .i64 gk, .bool gc, .int .i64 gs, .string gd] 23)
        clear hX
        have HE9 := HE.out (wa.alloc (.cells #[.bool ga, .bool gb, .int .i64 gk, .bool gc, .int .i64 gs, .string gd] 23))
        have a0 := hA.2 0 _ rfl
        have a1 := hA.2 1 _ rfl
        have a2 := hA.2 2 _ rfl
        have a3 := hA.2 3 _ rfl
        have a4 := hA.2 4 _ rfl
        have a5 := hA.2 5 _ rfl
        go_wp2
        go_ret
        exact ⟨by first | rfl | exact ret_bool (by simp [e2]), hB1⟩
end Go.Proofs.Ytgbpecjgpiffmaa
