/-
  The law on GREs with a byte changed.
-/
import Derived.Test.YtgbpecjgpiffmaaDgr
import Derived.Test.YtgbpecjgpiffmaaDgr2
import Derived.Test.YtgbpecjgpiffmaaTurn
namespace Go.Proofs.Ytgbpecjgpiffmaa
open Go.RowKit Go.PlainAid
theorem grText_ge {g : GrV} (h : (grOk g && carB g.data) = true) (hs : g.sum = true) (x : Int) : 8 ≤ (grText g x).length := by
  rw [grBig g x h, grAll, hs]
  simp only [if_true, List.length_append, grH_len, be_length]; omega
set_option maxRecDepth 100000 in
set_option maxHeartbeats 6400000 in
theorem walk_FnGreTurned (C : Option Addr) (len cap : Nat) (zs : List Int) (w : World) (w0 : IsRow .u8 w C len cap zs) :
    Calls Try.prog 7 #[.slice C len cap] w fun e w' => e = .returned (.bool true) ∧ Below w.heap.size w w' := by
  have hl := row_len w0
  by_cases hz : 1048576 < len
  · go_enter Try.func7, Try.ntmps7
    go_wp2
    go_ret
    exact ⟨rfl, Below.refl _ _⟩
  · have hC := code_of_row w0 (by omega)
    clear w0
    go_enter Try.func7, Try.ntmps7
    go_wp2_with fail
    refine (big_no _ _ _ _ (by omega)).mono ?_
    rintro e w' ⟨rfl, hw'⟩
    rw [hw']
    clear hw' w'
    go_wp2_with fail
    refine (d_GreBytes _ C len cap _ hC).mono ?_
    rintro e w1 ⟨g0, rfl, hk0, hs0, hd0, hB⟩
    obtain ⟨g, hg⟩ : ∃ g : GrV, g = ⟨true, g0.hasKey, g0.key, g0.hasSeq, g0.seq, g0.data⟩ := ⟨_, rfl⟩
    have hsu : g.sum = true := by rw [hg]
    have hk : g.key ≤ 9223372036854775807 := by rw [hg]; exact hk0
    have hs : g.seq ≤ 9223372036854775807 := by rw [hg]; exact hs0
    have hd : g.data.size ≤ 65100 := by rw [hg]; exact hd0
    clear hk0 hs0 hd0
    have hle := grText_le g (grSum g)
    have CI : Hid (∀ v : World, Calls Try.prog 24 #[.agg (grL g)] v fun e w' => e = .returned (.string (str (grText g (grSum g)))) ∧ Below v.heap.size v w') := fun v => i_GreBytes g v hk hs (by omega)
    have CS : Hid (∀ v : World, Calls Try.prog 26 #[.agg (grL g)] v fun e w' => e = .returned (.string (str (grText g (grSum g)))) ∧ Below v.heap.size v w') := fun v => s_GreBytes g v (by omega)
    have hA := Bx.new w1 (grL g) 23
    have hB1 := hB.alloc hB.size (.cells (grL g) 23)
    cases hok : (grOk g && carB g.data)
    · rw [gr_none _ hok] at CI CS
      clear hok hB hle hk hs hd hsu
      subst hg
      obtain ⟨ga, gb, gk, gc, gs, gd⟩ := g0
      simp only [grL] at hA hB1 CI CS ⊢
      go_wp2_with fail
      refine (CI.out _).mono ?_
      rintro e w2 ⟨rfl, hX⟩
      replace hA := hA.below hX
      replace hB1 := hB1.trans (hX.mono hB1.size)
      clear hX
      have a0 := hA.2 0 _ rfl
      have a1 := hA.2 1 _ rfl
      have a2 := hA.2 2 _ rfl
      have a3 := hA.2 3 _ rfl
      have a4 := hA.2 4 _ rfl
      have a5 := hA.2 5 _ rfl
      go_wp2_with fail
      refine (CS.out _).mono ?_
      rintro e w3 ⟨rfl, hX⟩
      replace hA := hA.below hX
      replace hB1 := hB1.trans (hX.mono hB1.size)
      clear hX a0 a1 a2 a3 a4 a5
      have a0 := hA.2 0 _ rfl
      have a1 := hA.2 1 _ rfl
      have a2 := hA.2 2 _ rfl
      have a3 := hA.2 3 _ rfl
      have a4 := hA.2 4 _ rfl
      have a5 := hA.2 5 _ rfl
      go_wp2_with fail
      refine (CS.out _).mono ?_
      rintro e w4 ⟨rfl, hX⟩
      replace hB1 := hB1.trans (hX.mono hB1.size)
      go_wp2
      go_ret
      exact ⟨rfl, hB1⟩
    · obtain ⟨y1, y2, y3⟩ := gr_back hok
      have e2 : ¬ (str (grText g (grSum g))).toList = [] := fun hh => by have := str_ne y3; rw [hh] at this; simp at this
      have hlen8 := grText_ge hok hsu (grSum g)
      have hlen9 : (grText g (grSum g)).length ≤ 70000 := by omega
      have CR : Hid (∀ v : World, Calls Try.prog 11 #[.string (str (grText g (grSum g)))] v fun e w' => e = .returned (.tuple #[.agg (grL g), .int .i64 0]) ∧ Below v.heap.size v w') := fun v => by
        have := i_ReadGre (str (grText g (grSum g))) v (by rw [str_size]; omega)
        rw [y1, y2] at this; exact this
      have CO : Hid (∀ (i : Nat) (c : UInt8) (v : World), i < (grText g (grSum g)).length → 4 ≤ i → (grText g (grSum g))[i]? ≠ some c → ∃ (t : GrV) (j : Int), ¬ j = 0 ∧ Calls Try.prog 11 #[.string (str ((grText g (grSum g)).set i c))] v fun e w' => e = .returned (.tuple #[.agg (grL t), .int .i64 j]) ∧ Below v.heap.size v w') := fun i c v hi h4 hc => by
        have := i_ReadGre (str ((grText g (grSum g)).set i c)) v (by rw [str_size, List.length_set]; omega)
        exact ⟨_, _, gr_turned hok hsu i hi h4 c hc, this⟩
      generalize grText g (grSum g) = T at *
      clear hok hB hle hk hs hd hsu y1 y2 y3
      subst hg
      obtain ⟨ga, gb, gk, gc, gs, gd⟩ := g0
      simp only [grL] at hA hB1 CI CS CR CO ⊢
      have hTs : (str T).size = T.length := str_size T
      have hT0 : T.isEmpty = false := by
        cases T with
        | nil => simp at hlen8
        | cons => rfl
      go_wp2_with fail
      refine (CI.out _).mono ?_
      rintro e w2 ⟨rfl, hX⟩
      replace hA := hA.below hX
      replace hB1 := hB1.trans (hX.mono hB1.size)
      clear hX
      have a0 := hA.2 0 _ rfl
      have a1 := hA.2 1 _ rfl
      have a2 := hA.2 2 _ rfl
      have a3 := hA.2 3 _ rfl
      have a4 := hA.2 4 _ rfl
      have a5 := hA.2 5 _ rfl
      go_wp2_with fail
      refine (CS.out _).mono ?_
      rintro e w3 ⟨rfl, hX⟩
      replace hB1 := hB1.trans (hX.mono hB1.size)
      clear hX a0 a1 a2 a3 a4 a5 hA
      go_wp2_with fail
      refine (CR.out _).mono ?_
      rintro e w4 ⟨rfl, hX⟩
      replace hB1 := hB1.trans (hX.mono hB1.size)
      replace hB1 := hB1.alloc hB1.size (.cells #[.bool true, .bool gb, .int .i64 gk, .bool gc, .int .i64 gs, .string gd] 23)
      clear hX
      have hC4 := hC.below hB1
      go_wp2_with fail
      refine (l_place _ C len cap _ _ (by omega) hC4).mono ?_
      rintro e w5 ⟨x, rfl, hx0, hx1, hw5⟩
      rw [hw5]
      clear hw5 w5
      obtain ⟨i, rfl⟩ := Int.eq_ofNat_of_zero_le hx0
      have hi1 : 4 + i < T.length := by omega
      have CT : Hid (∀ v : World, Code v w.heap.size C len → Calls Try.prog 27 #[.string (str T), .int .i64 (4 + (i : Int)), .slice C len cap] v fun e w' => ∃ c : UInt8, T[4 + i]? ≠ some c ∧ e = .returned (.string (str (T.set (4 + i) c))) ∧ Below v.heap.size v w') := fun v hv => by
        have := l_turned _ C len cap (str T) (4 + i) v (by rw [hTs]; exact hi1) (by rw [hTs]; omega) hv
        rw [show ((4 + i : Nat) : Int) = 4 + (i : Int) by omega] at this
        exact this
      go_wp2_with fail
      refine (CT.out _ hC4).mono ?_
      rintro e w7 ⟨c, hcn, rfl, hX⟩
      replace hB1 := hB1.trans (hX.mono hB1.size)
      clear hX
      obtain ⟨⟨ta, tb, tk, tc, ts, td⟩, j, hj, CO'⟩ := CO.out _ c w7 hi1 (by omega) hcn
      have CO2 : Hid (Calls Try.prog 11 #[.string (str (T.set (4 + i) c))] w7 fun e w' => e = .returned (.tuple #[.agg #[.bool ta, .bool tb, .int .i64 tk, .bool tc, .int .i64 ts, .string td], .int .i64 j]) ∧ Below w7.heap.size w7 w') := CO'
      clear CO'
      have hj2 : (j != 0) = true := by simp [hj]
      clear hj
      go_wp2_with fail
      refine CO2.out.mono ?_
      rintro e w8 ⟨rfl, hX⟩
      replace hB1 := hB1.trans (hX.mono hB1.size)
      replace hB1 := hB1.alloc hB1.size (.cells #[.bool ta, .bool tb, .int .i64 tk, .bool tc, .int .i64 ts, .string td] 23)
      go_wp2
      go_ret
      exact ⟨rfl, hB1⟩
end Go.Proofs.Ytgbpecjgpiffmaa
