/-
  The bytes of a GRE, by the program.
-/
import Derived.Test.YtgbpecjgpiffmaaGre1
namespace Go.Proofs.Ytgbpecjgpiffmaa
open Go.RowKit Go.PlainAid
set_option maxRecDepth 100000 in
set_option maxHeartbeats 3200000 in
theorem i_greSum (g : GrV) (w : World) (hk : g.key ≤ 9223372036854775807) (hs : g.seq ≤ 9223372036854775807) (hd : g.data.size ≤ 1048576) : Calls Try.prog 49 #[.agg (grL g)] w fun e w' => e = .returned (.int .i64 (grSum g)) ∧ Below w.heap.size w w' := by
  have CH : Hid (∀ u : World, Calls Try.prog 68 #[.agg (grT g 0)] u fun e w' => e = .returned (.string (str (grHd g 0))) ∧ Below u.heap.size u w') := fun u => i_greHead g 0 u (by decide) (by decide) hk hs
  have HJ : Lib.join ([str (grHd g 0), g.data].map (·.data.toList)) [] = grHd g 0 ++ bl g.data := by
    simp [Lib.join, List.intercalate]
  have hl := grHd_len g 0
  have CO : Hid (∀ (bk : Nat) (v : World), Bx v bk [.string (str (grHd g 0)), .string g.data] → Calls Try.prog 67 #[.slice (some ⟨bk, 0, none⟩) 2 2] v fun e w' => e = .returned (.int .i64 (sumOf (grHd g 0 ++ bl g.data))) ∧ Below v.heap.size v w') := fun bk v hA => by
    have := i_sumOver bk 2 [str (grHd g 0), g.data] v hA (by simp) (by simp) (by rw [HJ, List.length_append, bl_length]; omega)
    rw [HJ] at this
    exact this
  have HS : Hid (grSum g = if g.sum then sumOf (grHd g 0 ++ bl g.data) else 0) := rfl
  have hA : Bx (w.alloc (.cells (grL g) 23)) w.heap.size [.bool g.sum, .bool g.hasKey, .int .i64 g.key, .bool g.hasSeq, .int .i64 g.seq, .string g.data] := Bx.new w _ _
  have hB : Below w.heap.size w (w.alloc (.cells (grL g) 23)) := (Below.refl _ w).alloc (Nat.le_refl _) _
  generalize sumOf (grHd g 0 ++ bl g.data) = sm at *
  generalize str (grHd g 0) = th at *
  generalize grSum g = gs at *
  clear HJ hl
  obtain ⟨a, b, x, c, y, d⟩ := g
  simp only [grL, grT] at *
  cases a
  · simp only [Bool.false_eq_true, if_false] at HS
    go_enter Try.func49, Try.ntmps49
    go_wp2
    go_ret
    exact ⟨ret_i64 HS.out.symm, hB⟩
  · simp only [if_true] at HS
    go_enter Try.func49, Try.ntmps49
    go_wp2_with fail
    generalize hW : w.alloc _ = w0 at *
    clear hW
    have hAd : Bx w0.drew w.heap.size [.bool true, .bool b, .int .i64 x, .bool c, .int .i64 y, .string d] := hA
    have hBd : Below w.heap.size w w0.drew := hB.drew
    have a0 := hAd.2 0 _ rfl
    have a1 := hAd.2 1 _ rfl
    have a2 := hAd.2 2 _ rfl
    have a3 := hAd.2 3 _ rfl
    have a4 := hAd.2 4 _ rfl
    have a5 := hAd.2 5 _ rfl
    go_region_with (first | (go_at_call 68; refine (CH.out _).mono ?_; rintro e w2 ⟨rfl, hb2⟩; have hB2 := hBd.trans (hb2.mono hBd.size); have q5 := (hAd.below hb2).2 5 _ rfl; clear hb2) | (go_at_call 67; refine (CO.out _ _ (Bx.new _ _ _)).mono ?_; rintro e w4 ⟨rfl, hb4⟩; have hB4 := (hB2.alloc hB2.size _).trans (hb4.mono (by have := hB2.size; simp; omega)); clear hb4))
    all_goals
      go_wp2
      go_ret
      exact ⟨ret_i64 HS.out.symm, hB4⟩
set_option maxRecDepth 100000 in
theorem i_isGreN (has : Bool) (n : Int) (w : World) : Calls Try.prog 110 #[.bool has, .int .i64 n] w fun e w' => e = .returned (.bool (grN has n)) ∧ w' = w := by
  unfold grN
  cases has
  · simp only [Bool.false_eq_true, if_false]
    go_enter Try.func110, Try.ntmps110
    go_wp2
    go_ret
    exact ⟨ret_bool (by rw [Bool.eq_iff_iff]; simp), rfl⟩
  · simp only [if_true]
    by_cases h0 : 0 ≤ n
    · go_enter Try.func110, Try.ntmps110
      go_wp2
      go_ret
      exact ⟨ret_bool (by unfold inB; rw [Bool.eq_iff_iff]; simp; omega), rfl⟩
    · go_enter Try.func110, Try.ntmps110
      go_wp2
      go_ret
      exact ⟨ret_bool (by unfold inB; rw [Bool.eq_iff_iff]; simp; omega), rfl⟩
set_option maxRecDepth 100000 in
set_option maxHeartbeats 1600000 in
theorem i_greRight (g : GrV) (sv : Int) (w : World) : Calls Try.prog 109 #[.agg (grT g sv)] w fun e w' => e = .returned (.bool (grOk g)) ∧ Below w.heap.size w w' := by
  have HK : Hid (grOk g = (grN g.hasKey g.key && grN g.hasSeq g.seq)) := rfl
  have hB : Below w.heap.size w (w.alloc (.cells (grT g sv) 59)) := (Below.refl _ w).alloc (Nat.le_refl _) _
  generalize grOk g = ok at *
  obtain ⟨a, b, x, c, y, d⟩ := g
  simp only [grT] at *
  have CN : Hid (∀ (has : Bool) (n : Int) (u : World), Calls Try.prog 110 #[.bool has, .int .i64 n] u fun e w' => e = .returned (.bool (grN has n)) ∧ w' = u) := fun h n u => i_isGreN h n u
  cases h1 : grN b x
  · rw [h1] at HK
    go_enter Try.func109, Try.ntmps109
    go_wp2_with (go_at_call 110; refine (CN.out _ _ _).mono ?_; rintro e wz ⟨rfl, hz⟩; rw [hz]; clear hz wz; try rw [h1])
    go_ret
    exact ⟨ret_bool (by rw [HK.out]; rfl), hB⟩
  · rw [h1] at HK
    go_enter Try.func109, Try.ntmps109
    go_wp2_with (go_at_call 110; refine (CN.out _ _ _).mono ?_; rintro e wz ⟨rfl, hz⟩; rw [hz]; clear hz wz; try rw [h1])
    go_ret
    exact ⟨ret_bool (by rw [HK.out]; rfl), hB⟩
set_option maxRecDepth 100000 in
theorem i_greCar (g : GrV) (sv : Int) (w : World) : Calls Try.prog 108 #[.agg (grT g sv)] w fun e w' => e = .returned (.string g.data) ∧ Below w.heap.size w w' := by
  obtain ⟨a, b, x, c, y, d⟩ := g
  simp only [grT]
  go_enter Try.func108, Try.ntmps108
  go_wp2
  go_ret
  exact ⟨rfl, (Below.refl _ w).alloc (Nat.le_refl _) _⟩
set_option maxRecDepth 100000 in
set_option maxHeartbeats 1600000 in
theorem i_tunGr (g : GrV) (sv : Int) (w : World) (h0 : 0 ≤ sv) (h1 : sv ≤ 65535) (hk : g.key ≤ 9223372036854775807) (hs : g.seq ≤ 9223372036854775807) (hd : g.data.size ≤ 1099511627776) : Calls Try.prog 43 #[.iface 59 (.agg (grT g sv))] w fun e w' => e = .returned (.string (str (grText g sv))) ∧ Below w.heap.size w w' := by
  have CR : Hid (∀ u : World, Calls Try.prog 109 #[.agg (grT g sv)] u fun e w' => e = .returned (.bool (grOk g)) ∧ Below u.heap.size u w') := fun u => i_greRight g sv u
  have CC : Hid (∀ u : World, Calls Try.prog 108 #[.agg (grT g sv)] u fun e w' => e = .returned (.string g.data) ∧ Below u.heap.size u w') := fun u => i_greCar g sv u
  have CH : Hid (∀ u : World, Calls Try.prog 68 #[.agg (grT g sv)] u fun e w' => e = .returned (.string (str (grHd g sv))) ∧ Below u.heap.size u w') := fun u => i_greHead g sv u h0 h1 hk hs
  have hl := grHd_len g sv
  have HT : Hid (grText g sv = if grOk g && carB g.data then grHd g sv ++ bl g.data else []) := rfl
  have HC : Hid (carB g.data = decide (g.data.size ≤ 65000)) := rfl
  generalize grText g sv = tx at *
  generalize grHd g sv = hx at *
  generalize grOk g = ok at *
  generalize carB g.data = cb at *
  generalize g.data = da at *
  generalize grT g sv = ar at *
  cases ok
  · have HE : Hid (tx = []) := by rw [HT.out]; rfl
    clear HT
    go_enter Try.func43, Try.ntmps43
    go_wp2_with (go_at_call 109; refine (CR.out _).mono ?_; rintro e w1 ⟨rfl, hb1⟩)
    go_ret
    exact ⟨by rw [HE.out]; rfl, hb1⟩
  · by_cases hc : da.size ≤ 65000
    · have HE : Hid (str hx ++ da = str tx) := by show _ = _; rw [HT.out, HC.out, decide_eq_true hc, str_app_bl]; rfl
      clear HT HC
      go_enter Try.func43, Try.ntmps43
      go_wp2_with fail
      go_at_call 109
      refine (CR.out _).mono ?_
      rintro e w1 ⟨rfl, hB⟩
      go_wp2_with fail
      go_at_call 108
      refine (CC.out _).mono ?_
      rintro e w2 ⟨rfl, hb2⟩
      replace hB := hB.trans (hb2.mono hB.size)
      go_wp2_with fail
      go_at_call 68
      refine (CH.out _).mono ?_
      rintro e w3 ⟨rfl, hb3⟩
      replace hB := hB.trans (hb3.mono hB.size)
      go_wp2_with fail
      go_at_call 108
      refine (CC.out _).mono ?_
      rintro e w4 ⟨rfl, hb4⟩
      replace hB := hB.trans (hb4.mono hB.size)
      go_wp2
      go_ret
      exact ⟨ret_strb HE.out, hB⟩
    · have HE : Hid (tx = []) := by show _ = _; rw [HT.out, HC.out, decide_eq_false hc]; rfl
      clear HT HC
      go_enter Try.func43, Try.ntmps43
      go_wp2_with fail
      go_at_call 109
      refine (CR.out _).mono ?_
      rintro e w1 ⟨rfl, hB⟩
      go_wp2_with fail
      go_at_call 108
      refine (CC.out _).mono ?_
      rintro e w2 ⟨rfl, hb2⟩
      go_wp2
      go_ret
      exact ⟨by rw [HE.out]; rfl, hB.trans (hb2.mono hB.size)⟩
set_option maxRecDepth 100000 in
set_option maxHeartbeats 1600000 in
theorem i_GreBytes (g : GrV) (w : World) (hk : g.key ≤ 9223372036854775807) (hs : g.seq ≤ 9223372036854775807) (hd : g.data.size ≤ 1048576) : Calls Try.prog 24 #[.agg (grL g)] w fun e w' => e = .returned (.string (str (grText g (grSum g)))) ∧ Below w.heap.size w w' := by
  obtain ⟨s0, s1⟩ := grSum_bd g
  have CS : Hid (∀ u : World, Calls Try.prog 49 #[.agg (grL g)] u fun e w' => e = .returned (.int .i64 (grSum g)) ∧ Below u.heap.size u w') := fun u => i_greSum g u hk hs hd
  have CT : Hid (∀ u : World, Calls Try.prog 43 #[.iface 59 (.agg (grT g (grSum g)))] u fun e w' => e = .returned (.string (str (grText g (grSum g)))) ∧ Below u.heap.size u w') := fun u => i_tunGr g _ u s0 s1 hk hs (by omega)
  have hA : Bx (w.alloc (.cells (grL g) 23)) w.heap.size [.bool g.sum, .bool g.hasKey, .int .i64 g.key, .bool g.hasSeq, .int .i64 g.seq, .string g.data] := Bx.new w _ _
  have hB : Below w.heap.size w (w.alloc (.cells (grL g) 23)) := (Below.refl _ w).alloc (Nat.le_refl _) _
  generalize str (grText g (grSum g)) = tx at *
  generalize grSum g = gs at *
  obtain ⟨a, b, x, c, y, d⟩ := g
  simp only [grL, grT] at *
  go_enter Try.func24, Try.ntmps24
  go_wp2_with fail
  generalize hW : w.alloc _ = w0 at *
  clear hW
  have hne := BW.some w0
  have a0 := fun u : BW w0 => (hA.ofBW u).2 0 _ rfl
  have a1 := fun u : BW w0 => (hA.ofBW u).2 1 _ rfl
  have a2 := fun u : BW w0 => (hA.ofBW u).2 2 _ rfl
  have a3 := fun u : BW w0 => (hA.ofBW u).2 3 _ rfl
  have a4 := fun u : BW w0 => (hA.ofBW u).2 4 _ rfl
  have a5 := fun u : BW w0 => (hA.ofBW u).2 5 _ rfl
  refine wp_region_below (by kernel_rfl) (by kernel_rfl) ?_
  repeat (go_big_quiet_step (first | (go_at_call 49; exact Calls.into (CS.out _)) | (go_at_call 43; exact Calls.into (CT.out _))))
  refine wpQuiet_nil ?_
  intro _ hw'
  obtain ⟨u, hw''⟩ := hw'
  subst hw''
  clear a0 a1 a2 a3 a4 a5 hne
  go_wp2
  go_ret
  exact ⟨rfl, hB.trans (u.le.mono hB.size)⟩
end Go.Proofs.Ytgbpecjgpiffmaa
