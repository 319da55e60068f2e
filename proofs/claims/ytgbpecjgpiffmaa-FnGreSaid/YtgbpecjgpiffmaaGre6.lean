/-
  What is read as a GRE, by the model.
-/
import Derived.Test.YtgbpecjgpiffmaaGre5
namespace Go.Proofs.Ytgbpecjgpiffmaa
open Go.RowKit Go.PlainAid
theorem toL00 : (⟨#[0, 0]⟩ : ByteArray).toList = [0, 0] := by first | decide | rfl | simp
theorem and_1g {x : Int} (h₀ : 0 ≤ x) (h₁ : x < 2 ^ 63) : bits .and .i64 x 1 = x % 2 := bits_mask .i64 63 (by decide) wraps_i64 1 (by decide) x h₀ h₁
theorem byte0 (s : ByteArray) (h : 0 < s.size) : (((s[0]'h).toNat : Nat) : Int) = numAt s 0 1 := by
  rw [(okN_true (s := s) (at_ := 0) (k := 1) ⟨by omega, by omega, by omega, by omega⟩).2]
  have e : ((bl s).drop (0 : Int).toNat).take (1 : Int).toNat = [s[0]'h] := by
    have hl : 0 < (bl s).length := by rw [bl_length]; exact h
    have e2 : (bl s)[0]'hl = s[0]'h := by simp [ByteArray.getElem_eq_getElem_data]
    cases hb : bl s with
    | nil => rw [hb] at hl; simp at hl
    | cons x l => simp only [hb] at e2; simp at e2; simp [e2]
  rw [e]; simp [num]
theorem s_Num (s : ByteArray) (x k : Int) (u : World) (hs : s.size ≤ 1099511627776) (h0 : 0 ≤ x) (h1 : 1 ≤ k) (h2 : k ≤ 7) (h3 : x + k ≤ s.size) : Calls Try.prog 32 #[.string s, .int .i64 x, .int .i64 k] u fun e w' => e = .returned (.int .i64 (numAt s x k)) ∧ w' = u := by
  have := s_At s x k u (by unfold maxLen; omega) h0 (by omega) h2 h3
  rw [← (okN_true (s := s) (at_ := x) (k := k) ⟨h1, h2, h0, h3⟩).2] at this; exact this
set_option maxRecDepth 100000 in
set_option maxHeartbeats 1600000 in
theorem s_RGshort (s : ByteArray) (w : World) (hs : s.size ≤ 1048576) (h4 : s.size < 4) :
    Calls Try.prog 10 #[.string s] w fun e w' => e = .returned (.tuple #[.agg (grL (grR s)), .int .i64 (grC s)]) ∧ Below w.heap.size w w' := by
  have hb := gp_bd s
  have Z9 := gr_no (s := s) (k := 1) (by unfold grC; rw [if_neg (by omega)]) (by decide)
  have ZZ : Hid (grL (grR s) = #[.bool false, .bool false, .int .i64 0, .bool false, .int .i64 0, .string ⟨#[]⟩] ∧ grC s = 1) := ⟨by rw [Z9.1]; rfl, Z9.2⟩
  clear Z9 hb
  have h4i : (s.size : Int) < 4 := by omega
  go_enter Try.func10, Try.ntmps10
  go_wp2
  refine bodyPost_ret (v := .tuple #[.agg #[.bool false, .bool false, .int .i64 0, .bool false, .int .i64 0, .string ⟨#[]⟩], .int .i64 1]) ?_ rfl ⟨by rw [ZZ.out.1, ZZ.out.2], ?_⟩
  · simp [results, Try.results10, go_sem]
  · go_grown
set_option maxRecDepth 100000 in
set_option maxHeartbeats 6400000 in
theorem s_RG000 (s : ByteArray) (w : World) (hs : s.size ≤ 1048576) (h4 : 4 ≤ s.size) (hga : gra s = false) (hgb : grb s = false) (hgc : grc s = false) :
    Calls Try.prog 10 #[.string s] w fun e w' => e = .returned (.tuple #[.agg (grL (grR s)), .int .i64 (grC s)]) ∧ Below w.heap.size w w' := by
  have hpD : gpD s = 4 := by unfold gpD gpS gpK; rw [hga, hgb, hgc]; rfl
  have hmb := numAt_bd s 0 1
  have hm0 : 0 ≤ numAt s 0 1 := hmb.1
  have hm1 : numAt s 0 1 < 256 := hmb.2
  clear hmb
  have hi0 : 0 < s.size := by omega
  have eB := byte0 s hi0
  have b7 : bits .and .i64 (numAt s 0 1 / 128) 1 = 0 := by
    rw [and_1g (by omega) (by omega)]
    have : decide (numAt s 0 1 / 128 % 2 = 1) = false := hga
    have := of_decide_eq_false this
    omega
  have b5 : bits .and .i64 (numAt s 0 1 / 32) 1 = 0 := by
    rw [and_1g (by omega) (by omega)]
    have : decide (numAt s 0 1 / 32 % 2 = 1) = false := hgb
    have := of_decide_eq_false this
    omega
  have b4 : bits .and .i64 (numAt s 0 1 / 16) 1 = 0 := by
    rw [and_1g (by omega) (by omega)]
    have : decide (numAt s 0 1 / 16 % 2 = 1) = false := hgc
    have := of_decide_eq_false this
    omega
  have h4i : ¬ (s.size : Int) < 4 := by omega
  by_cases h8 : 4 ≤ (s.size : Int)
  · have HD : Hid (grd s = ⟨false, false, 0, false, 0, s.extract 4 s.size⟩) := by
      show _ = _
      have e1 : gpK s = 4 := by unfold gpK; rw [hga]; rfl
      have e2 : gpS s = 4 := by unfold gpS; rw [hgb, e1]; rfl
      unfold grd; rw [hga, hgb, hgc, hpD, e1, e2]; rfl
    have bd := grd_data s
    have CA : Hid (∀ (x k : Int) (u : World), 0 ≤ x → 1 ≤ k → k ≤ 7 → x + k ≤ s.size → Calls Try.prog 32 #[.string s, .int .i64 x, .int .i64 k] u fun e w' => e = .returned (.int .i64 (numAt s x k)) ∧ w' = u) := fun x k u h0 h1 h2 h3 => s_Num s x k u (by omega) h0 h1 h2 h3
    have CG : Hid (∀ u : World, Calls Try.prog 26 #[.agg (grL (grd s))] u fun e w' => e = .returned (.string (str (grText (grd s) (grSum (grd s))))) ∧ Below u.heap.size u w') := fun u => s_GreBytes _ u (by omega)
    have HA : Hid (gpD s ≤ s.size) := by show _ ≤ _; rw [hpD]; exact h8
    have HE : Hid (¬ (str (grText (grd s) (grSum (grd s))) = s) → grCase s (str (grText (grd s) (grSum (grd s)))) = decide (str (grText (grd s) (gsv s)) = s)) := fun h => grCase_iff s HA.out h
    have HS : Hid (str (grText (grd s) (grSum (grd s))) = s ↔ str (grText (grd s) (gsv s)) = s ∧ gsv s = grSum (grd s)) := gr_same s HA.out
    have HC : Hid (grC s = if str (grText (grd s) (gsv s)) = s then (if gsv s = grSum (grd s) then 0 else 4) else 2) := by show _ = _; unfold grC; rw [if_pos HA.out]
    have HYs : Hid (grC s = 0 → grR s = grd s ∧ grC s = 0) := fun h => gr_yes h
    have HNs : Hid (∀ k : Int, grC s = k → ¬ k = 0 → grR s = gr0 ∧ grC s = k) := fun k h hk => gr_no h hk
    have HCA : Hid (∀ t : ByteArray, grCase s t = (false && (decide (t.size = s.size) && (decide (t.extract 0 4 = s.extract 0 4) && decide (s.extract 6 8 = ⟨#[0, 0]⟩))))) := fun t => by unfold grCase; rw [hga]
    have htz : (str (grText (grd s) (grSum (grd s)))).size ≤ 1099511627776 := by
      rw [str_size]; unfold grText; split
      · rw [List.length_append, bl_length]; have := grHd_len (grd s) (grSum (grd s)); omega
      · simp
    generalize str (grText (grd s) (grSum (grd s))) = tt at *
    generalize str (grText (grd s) (gsv s)) = tu at *
    generalize hgsd : grSum (grd s) = gs at *
    generalize gsv s = sv at *
    rw [HD.out] at CG
    simp only [grL] at CG
    clear bd HA hga hgb hgc hpD hgsd
    go_enter Try.func10, Try.ntmps10
    go_wp2_with (go_at_call 32; refine (CA.out _ _ _ (by omega) (by omega) (by omega) (by omega)).mono ?_; rintro e wz ⟨rfl, hz⟩; rw [hz]; clear hz wz)
    go_at_call 26
    have hO := (Bx.new w #[.bool false, .bool false, .int .i64 0, .bool false, .int .i64 0, .string ⟨#[]⟩] 23).below ((Below.refl _ _).alloc (Nat.le_refl _) (.cells #[.bool false, .bool false, .int .i64 0, .bool false, .int .i64 0, .string (s.extract 4 s.size)] 23))
    have hP := (Fx.new w #[.bool false, .bool false, .int .i64 0, .bool false, .int .i64 0, .string ⟨#[]⟩] 23).below ((Below.refl _ _).alloc (Nat.le_refl _) (.cells #[.bool false, .bool false, .int .i64 0, .bool false, .int .i64 0, .string (s.extract 4 s.size)] 23))
    have hG := Bx.new (w.alloc (.cells #[.bool false, .bool false, .int .i64 0, .bool false, .int .i64 0, .string ⟨#[]⟩] 23)) #[.bool false, .bool false, .int .i64 0, .bool false, .int .i64 0, .string (s.extract 4 s.size)] 23
    rw [show (w.alloc (.cells #[.bool false, .bool false, .int .i64 0, .bool false, .int .i64 0, .string ⟨#[]⟩] 23)).heap.size = w.heap.size + 1 by simp] at hG
    have hB : Below w.heap.size w ((w.alloc (.cells #[.bool false, .bool false, .int .i64 0, .bool false, .int .i64 0, .string ⟨#[]⟩] 23)).alloc (.cells #[.bool false, .bool false, .int .i64 0, .bool false, .int .i64 0, .string (s.extract 4 s.size)] 23)) := ((Below.refl _ w).alloc (Nat.le_refl _) _).alloc (by simp) _
    generalize (w.alloc (.cells #[.bool false, .bool false, .int .i64 0, .bool false, .int .i64 0, .string ⟨#[]⟩] 23)).alloc (.cells #[.bool false, .bool false, .int .i64 0, .bool false, .int .i64 0, .string (s.extract 4 s.size)] 23) = w0 at *
    refine (CG.out _).mono ?_
    rintro e w1 ⟨rfl, hX⟩
    replace hO := hO.below hX
    replace hP := hP.below hX
    replace hG := hG.below hX
    replace hB := hB.trans (hX.mono hB.size)
    clear hX CA CG
    have a0 := hG.2 0 _ rfl
    have a1 := hG.2 1 _ rfl
    have a2 := hG.2 2 _ rfl
    have a3 := hG.2 3 _ rfl
    have a4 := hG.2 4 _ rfl
    have a5 := hG.2 5 _ rfl
    have r0 := hO.2 0 _ rfl
    have r1 := hO.2 1 _ rfl
    have r2 := hO.2 2 _ rfl
    have r3 := hO.2 3 _ rfl
    have r4 := hO.2 4 _ rfl
    have r5 := hO.2 5 _ rfl
    have v0 := hP.2 0
    have v1 := hP.2 1
    have v2 := hP.2 2
    have v3 := hP.2 3
    have v4 := hP.2 4
    have v5 := hP.2 5

    generalize s.extract 4 s.size = da at *
    by_cases hq : tt = s
    · have hqb := beq_strg hq
      obtain ⟨c1, c2⟩ := HS.out.1 hq
      have hc0 : grC s = 0 := by rw [HC.out, if_pos c1, if_pos c2]
      have Z9 := HYs.out hc0
      have ZZ : Hid (grL (grR s) = #[.bool false, .bool false, .int .i64 0, .bool false, .int .i64 0, .string da] ∧ grC s = 0) := ⟨by rw [Z9.1, HD.out]; rfl, Z9.2⟩
      clear Z9 hc0 c1 c2 hq HYs HNs HC HS HE HCA
      go_wp2
      refine bodyPost_ret (v := .tuple #[.agg #[.bool false, .bool false, .int .i64 0, .bool false, .int .i64 0, .string da], .int .i64 0]) ?_ rfl ⟨by rw [ZZ.out.1, ZZ.out.2], ?_⟩
      · simp [results, Try.results10, go_sem, r0, r1, r2, r3, r4, r5]
      · go_grown
    · have hqb := str_ne hq
      replace HE : Hid (decide (tu = s) = grCase s tt) := (HE.out hq).symm
      rw [HCA.out] at HE
      replace HE : Hid (decide (tu = s) = false) := HE
      have Z9 := HNs.out 2 (by rw [HC.out]; rw [if_neg (of_decide_eq_false HE.out)]) (by decide)
      have ZZ : Hid (grL (grR s) = #[.bool false, .bool false, .int .i64 0, .bool false, .int .i64 0, .string ⟨#[]⟩] ∧ grC s = 2) := ⟨by rw [Z9.1]; rfl, Z9.2⟩
      clear Z9 hq HYs HNs HC HS HE HCA
      go_wp2_with fail
      go_quiet (fail)
      go_wp2
      refine bodyPost_ret (v := .tuple #[.agg #[.bool false, .bool false, .int .i64 0, .bool false, .int .i64 0, .string ⟨#[]⟩], .int .i64 2]) ?_ rfl ⟨by rw [ZZ.out.1, ZZ.out.2], ?_⟩
      · simp [results, Try.results10, go_sem, r0, r1, r2, r3, r4, r5]
      · go_grown
        exact hB.trans ⟨rfl, rfl, rfl, Nat.le_refl _, fun _ _ => rfl⟩
  · exact absurd (by omega) h8
set_option maxRecDepth 100000 in
set_option maxHeartbeats 6400000 in
theorem s_RG001 (s : ByteArray) (w : World) (hs : s.size ≤ 1048576) (h4 : 4 ≤ s.size) (hga : gra s = false) (hgb : grb s = false) (hgc : grc s = true) :
    Calls Try.prog 10 #[.string s] w fun e w' => e = .returned (.tuple #[.agg (grL (grR s)), .int .i64 (grC s)]) ∧ Below w.heap.size w w' := by
  have hpD : gpD s = 8 := by unfold gpD gpS gpK; rw [hga, hgb, hgc]; rfl
  have hmb := numAt_bd s 0 1
  have hm0 : 0 ≤ numAt s 0 1 := hmb.1
  have hm1 : numAt s 0 1 < 256 := hmb.2
  clear hmb
  have hi0 : 0 < s.size := by omega
  have eB := byte0 s hi0
  have b7 : bits .and .i64 (numAt s 0 1 / 128) 1 = 0 := by
    rw [and_1g (by omega) (by omega)]
    have : decide (numAt s 0 1 / 128 % 2 = 1) = false := hga
    have := of_decide_eq_false this
    omega
  have b5 : bits .and .i64 (numAt s 0 1 / 32) 1 = 0 := by
    rw [and_1g (by omega) (by omega)]
    have : decide (numAt s 0 1 / 32 % 2 = 1) = false := hgb
    have := of_decide_eq_false this
    omega
  have b4 : bits .and .i64 (numAt s 0 1 / 16) 1 = 1 := by
    rw [and_1g (by omega) (by omega)]
    have : decide (numAt s 0 1 / 16 % 2 = 1) = true := hgc
    have := of_decide_eq_true this
    omega
  have h4i : ¬ (s.size : Int) < 4 := by omega
  by_cases h8 : 8 ≤ (s.size : Int)
  · have HD : Hid (grd s = ⟨false, false, 0, true, numAt s 4 4, s.extract 8 s.size⟩) := by
      show _ = _
      have e1 : gpK s = 4 := by unfold gpK; rw [hga]; rfl
      have e2 : gpS s = 4 := by unfold gpS; rw [hgb, e1]; rfl
      unfold grd; rw [hga, hgb, hgc, hpD, e1, e2]; rfl
    have bd := grd_data s
    have CA : Hid (∀ (x k : Int) (u : World), 0 ≤ x → 1 ≤ k → k ≤ 7 → x + k ≤ s.size → Calls Try.prog 32 #[.string s, .int .i64 x, .int .i64 k] u fun e w' => e = .returned (.int .i64 (numAt s x k)) ∧ w' = u) := fun x k u h0 h1 h2 h3 => s_Num s x k u (by omega) h0 h1 h2 h3
    have CG : Hid (∀ u : World, Calls Try.prog 26 #[.agg (grL (grd s))] u fun e w' => e = .returned (.string (str (grText (grd s) (grSum (grd s))))) ∧ Below u.heap.size u w') := fun u => s_GreBytes _ u (by omega)
    have HA : Hid (gpD s ≤ s.size) := by show _ ≤ _; rw [hpD]; exact h8
    have HE : Hid (¬ (str (grText (grd s) (grSum (grd s))) = s) → grCase s (str (grText (grd s) (grSum (grd s)))) = decide (str (grText (grd s) (gsv s)) = s)) := fun h => grCase_iff s HA.out h
    have HS : Hid (str (grText (grd s) (grSum (grd s))) = s ↔ str (grText (grd s) (gsv s)) = s ∧ gsv s = grSum (grd s)) := gr_same s HA.out
    have HC : Hid (grC s = if str (grText (grd s) (gsv s)) = s then (if gsv s = grSum (grd s) then 0 else 4) else 2) := by show _ = _; unfold grC; rw [if_pos HA.out]
    have HYs : Hid (grC s = 0 → grR s = grd s ∧ grC s = 0) := fun h => gr_yes h
    have HNs : Hid (∀ k : Int, grC s = k → ¬ k = 0 → grR s = gr0 ∧ grC s = k) := fun k h hk => gr_no h hk
    have HCA : Hid (∀ t : ByteArray, grCase s t = (false && (decide (t.size = s.size) && (decide (t.extract 0 4 = s.extract 0 4) && decide (s.extract 6 8 = ⟨#[0, 0]⟩))))) := fun t => by unfold grCase; rw [hga]
    have htz : (str (grText (grd s) (grSum (grd s)))).size ≤ 1099511627776 := by
      rw [str_size]; unfold grText; split
      · rw [List.length_append, bl_length]; have := grHd_len (grd s) (grSum (grd s)); omega
      · simp
    generalize str (grText (grd s) (grSum (grd s))) = tt at *
    generalize str (grText (grd s) (gsv s)) = tu at *
    generalize hgsd : grSum (grd s) = gs at *
    generalize gsv s = sv at *
    rw [HD.out] at CG
    simp only [grL] at CG
    clear bd HA hga hgb hgc hpD hgsd
    go_enter Try.func10, Try.ntmps10
    go_wp2_with (go_at_call 32; refine (CA.out _ _ _ (by omega) (by omega) (by omega) (by omega)).mono ?_; rintro e wz ⟨rfl, hz⟩; rw [hz]; clear hz wz)
    go_at_call 26
    have hO := (Bx.new w #[.bool false, .bool false, .int .i64 0, .bool false, .int .i64 0, .string ⟨#[]⟩] 23).below ((Below.refl _ _).alloc (Nat.le_refl _) (.cells #[.bool false, .bool false, .int .i64 0, .bool true, .int .i64 (numAt s 4 4), .string (s.extract 8 s.size)] 23))
    have hP := (Fx.new w #[.bool false, .bool false, .int .i64 0, .bool false, .int .i64 0, .string ⟨#[]⟩] 23).below ((Below.refl _ _).alloc (Nat.le_refl _) (.cells #[.bool false, .bool false, .int .i64 0, .bool true, .int .i64 (numAt s 4 4), .string (s.extract 8 s.size)] 23))
    have hG := Bx.new (w.alloc (.cells #[.bool false, .bool false, .int .i64 0, .bool false, .int .i64 0, .string ⟨#[]⟩] 23)) #[.bool false, .bool false, .int .i64 0, .bool true, .int .i64 (numAt s 4 4), .string (s.extract 8 s.size)] 23
    rw [show (w.alloc (.cells #[.bool false, .bool false, .int .i64 0, .bool false, .int .i64 0, .string ⟨#[]⟩] 23)).heap.size = w.heap.size + 1 by simp] at hG
    have hB : Below w.heap.size w ((w.alloc (.cells #[.bool false, .bool false, .int .i64 0, .bool false, .int .i64 0, .string ⟨#[]⟩] 23)).alloc (.cells #[.bool false, .bool false, .int .i64 0, .bool true, .int .i64 (numAt s 4 4), .string (s.extract 8 s.size)] 23)) := ((Below.refl _ w).alloc (Nat.le_refl _) _).alloc (by simp) _
    generalize (w.alloc (.cells #[.bool false, .bool false, .int .i64 0, .bool false, .int .i64 0, .string ⟨#[]⟩] 23)).alloc (.cells #[.bool false, .bool false, .int .i64 0, .bool true, .int .i64 (numAt s 4 4), .string (s.extract 8 s.size)] 23) = w0 at *
    refine (CG.out _).mono ?_
    rintro e w1 ⟨rfl, hX⟩
    replace hO := hO.below hX
    replace hP := hP.below hX
    replace hG := hG.below hX
    replace hB := hB.trans (hX.mono hB.size)
    clear hX CA CG
    have a0 := hG.2 0 _ rfl
    have a1 := hG.2 1 _ rfl
    have a2 := hG.2 2 _ rfl
    have a3 := hG.2 3 _ rfl
    have a4 := hG.2 4 _ rfl
    have a5 := hG.2 5 _ rfl
    have r0 := hO.2 0 _ rfl
    have r1 := hO.2 1 _ rfl
    have r2 := hO.2 2 _ rfl
    have r3 := hO.2 3 _ rfl
    have r4 := hO.2 4 _ rfl
    have r5 := hO.2 5 _ rfl
    have v0 := hP.2 0
    have v1 := hP.2 1
    have v2 := hP.2 2
    have v3 := hP.2 3
    have v4 := hP.2 4
    have v5 := hP.2 5

    generalize numAt s 4 4 = ns at *
    generalize s.extract 8 s.size = da at *
    by_cases hq : tt = s
    · have hqb := beq_strg hq
      obtain ⟨c1, c2⟩ := HS.out.1 hq
      have hc0 : grC s = 0 := by rw [HC.out, if_pos c1, if_pos c2]
      have Z9 := HYs.out hc0
      have ZZ : Hid (grL (grR s) = #[.bool false, .bool false, .int .i64 0, .bool true, .int .i64 ns, .string da] ∧ grC s = 0) := ⟨by rw [Z9.1, HD.out]; rfl, Z9.2⟩
      clear Z9 hc0 c1 c2 hq HYs HNs HC HS HE HCA
      go_wp2
      refine bodyPost_ret (v := .tuple #[.agg #[.bool false, .bool false, .int .i64 0, .bool true, .int .i64 ns, .string da], .int .i64 0]) ?_ rfl ⟨by rw [ZZ.out.1, ZZ.out.2], ?_⟩
      · simp [results, Try.results10, go_sem, r0, r1, r2, r3, r4, r5]
      · go_grown
    · have hqb := str_ne hq
      replace HE : Hid (decide (tu = s) = grCase s tt) := (HE.out hq).symm
      rw [HCA.out] at HE
      replace HE : Hid (decide (tu = s) = false) := HE
      have Z9 := HNs.out 2 (by rw [HC.out]; rw [if_neg (of_decide_eq_false HE.out)]) (by decide)
      have ZZ : Hid (grL (grR s) = #[.bool false, .bool false, .int .i64 0, .bool false, .int .i64 0, .string ⟨#[]⟩] ∧ grC s = 2) := ⟨by rw [Z9.1]; rfl, Z9.2⟩
      clear Z9 hq HYs HNs HC HS HE HCA
      go_wp2_with fail
      go_quiet (fail)
      go_wp2
      refine bodyPost_ret (v := .tuple #[.agg #[.bool false, .bool false, .int .i64 0, .bool false, .int .i64 0, .string ⟨#[]⟩], .int .i64 2]) ?_ rfl ⟨by rw [ZZ.out.1, ZZ.out.2], ?_⟩
      · simp [results, Try.results10, go_sem, r0, r1, r2, r3, r4, r5]
      · go_grown
        exact hB.trans ⟨rfl, rfl, rfl, Nat.le_refl _, fun _ _ => rfl⟩
  · have Z9 := gr_no (s := s) (k := 1) (by unfold grC; rw [hpD, if_neg h8]) (by decide)
    have ZZ : Hid (grL (grR s) = #[.bool false, .bool false, .int .i64 0, .bool false, .int .i64 0, .string ⟨#[]⟩] ∧ grC s = 1) := ⟨by rw [Z9.1]; rfl, Z9.2⟩
    clear Z9 hpD hga hgb hgc
    have h8i : (s.size : Int) < 8 := by omega
    clear h8
    go_enter Try.func10, Try.ntmps10
    go_wp2
    refine bodyPost_ret (v := .tuple #[.agg #[.bool false, .bool false, .int .i64 0, .bool false, .int .i64 0, .string ⟨#[]⟩], .int .i64 1]) ?_ rfl ⟨by rw [ZZ.out.1, ZZ.out.2], ?_⟩
    · simp [results, Try.results10, go_sem]
    · go_grown
set_option maxRecDepth 100000 in
set_option maxHeartbeats 6400000 in
theorem s_RG010 (s : ByteArray) (w : World) (hs : s.size ≤ 1048576) (h4 : 4 ≤ s.size) (hga : gra s = false) (hgb : grb s = true) (hgc : grc s = false) :
    Calls Try.prog 10 #[.string s] w fun e w' => e = .returned (.tuple #[.agg (grL (grR s)), .int .i64 (grC s)]) ∧ Below w.heap.size w w' := by
  have hpD : gpD s = 8 := by unfold gpD gpS gpK; rw [hga, hgb, hgc]; rfl
  have hmb := numAt_bd s 0 1
  have hm0 : 0 ≤ numAt s 0 1 := hmb.1
  have hm1 : numAt s 0 1 < 256 := hmb.2
  clear hmb
  have hi0 : 0 < s.size := by omega
  have eB := byte0 s hi0
  have b7 : bits .and .i64 (numAt s 0 1 / 128) 1 = 0 := by
    rw [and_1g (by omega) (by omega)]
    have : decide (numAt s 0 1 / 128 % 2 = 1) = false := hga
    have := of_decide_eq_false this
    omega
  have b5 : bits .and .i64 (numAt s 0 1 / 32) 1 = 1 := by
    rw [and_1g (by omega) (by omega)]
    have : decide (numAt s 0 1 / 32 % 2 = 1) = true := hgb
    have := of_decide_eq_true this
    omega
  have b4 : bits .and .i64 (numAt s 0 1 / 16) 1 = 0 := by
    rw [and_1g (by omega) (by omega)]
    have : decide (numAt s 0 1 / 16 % 2 = 1) = false := hgc
    have := of_decide_eq_false this
    omega
  have h4i : ¬ (s.size : Int) < 4 := by omega
  by_cases h8 : 8 ≤ (s.size : Int)
  · have HD : Hid (grd s = ⟨false, true, numAt s 4 4, false, 0, s.extract 8 s.size⟩) := by
      show _ = _
      have e1 : gpK s = 4 := by unfold gpK; rw [hga]; rfl
      have e2 : gpS s = 8 := by unfold gpS; rw [hgb, e1]; rfl
      unfold grd; rw [hga, hgb, hgc, hpD, e1, e2]; rfl
    have bd := grd_data s
    have CA : Hid (∀ (x k : Int) (u : World), 0 ≤ x → 1 ≤ k → k ≤ 7 → x + k ≤ s.size → Calls Try.prog 32 #[.string s, .int .i64 x, .int .i64 k] u fun e w' => e = .returned (.int .i64 (numAt s x k)) ∧ w' = u) := fun x k u h0 h1 h2 h3 => s_Num s x k u (by omega) h0 h1 h2 h3
    have CG : Hid (∀ u : World, Calls Try.prog 26 #[.agg (grL (grd s))] u fun e w' => e = .returned (.string (str (grText (grd s) (grSum (grd s))))) ∧ Below u.heap.size u w') := fun u => s_GreBytes _ u (by omega)
    have HA : Hid (gpD s ≤ s.size) := by show _ ≤ _; rw [hpD]; exact h8
    have HE : Hid (¬ (str (grText (grd s) (grSum (grd s))) = s) → grCase s (str (grText (grd s) (grSum (grd s)))) = decide (str (grText (grd s) (gsv s)) = s)) := fun h => grCase_iff s HA.out h
    have HS : Hid (str (grText (grd s) (grSum (grd s))) = s ↔ str (grText (grd s) (gsv s)) = s ∧ gsv s = grSum (grd s)) := gr_same s HA.out
    have HC : Hid (grC s = if str (grText (grd s) (gsv s)) = s then (if gsv s = grSum (grd s) then 0 else 4) else 2) := by show _ = _; unfold grC; rw [if_pos HA.out]
    have HYs : Hid (grC s = 0 → grR s = grd s ∧ grC s = 0) := fun h => gr_yes h
    have HNs : Hid (∀ k : Int, grC s = k → ¬ k = 0 → grR s = gr0 ∧ grC s = k) := fun k h hk => gr_no h hk
    have HCA : Hid (∀ t : ByteArray, grCase s t = (false && (decide (t.size = s.size) && (decide (t.extract 0 4 = s.extract 0 4) && decide (s.extract 6 8 = ⟨#[0, 0]⟩))))) := fun t => by unfold grCase; rw [hga]
    have htz : (str (grText (grd s) (grSum (grd s)))).size ≤ 1099511627776 := by
      rw [str_size]; unfold grText; split
      · rw [List.length_append, bl_length]; have := grHd_len (grd s) (grSum (grd s)); omega
      · simp
    generalize str (grText (grd s) (grSum (grd s))) = tt at *
    generalize str (grText (grd s) (gsv s)) = tu at *
    generalize hgsd : grSum (grd s) = gs at *
    generalize gsv s = sv at *
    rw [HD.out] at CG
    simp only [grL] at CG
    clear bd HA hga hgb hgc hpD hgsd
    go_enter Try.func10, Try.ntmps10
    go_wp2_with (go_at_call 32; refine (CA.out _ _ _ (by omega) (by omega) (by omega) (by omega)).mono ?_; rintro e wz ⟨rfl, hz⟩; rw [hz]; clear hz wz)
    go_at_call 26
    have hO := (Bx.new w #[.bool false, .bool false, .int .i64 0, .bool false, .int .i64 0, .string ⟨#[]⟩] 23).below ((Below.refl _ _).alloc (Nat.le_refl _) (.cells #[.bool false, .bool true, .int .i64 (numAt s 4 4), .bool false, .int .i64 0, .string (s.extract 8 s.size)] 23))
    have hP := (Fx.new w #[.bool false, .bool false, .int .i64 0, .bool false, .int .i64 0, .string ⟨#[]⟩] 23).below ((Below.refl _ _).alloc (Nat.le_refl _) (.cells #[.bool false, .bool true, .int .i64 (numAt s 4 4), .bool false, .int .i64 0, .string (s.extract 8 s.size)] 23))
    have hG := Bx.new (w.alloc (.cells #[.bool false, .bool false, .int .i64 0, .bool false, .int .i64 0, .string ⟨#[]⟩] 23)) #[.bool false, .bool true, .int .i64 (numAt s 4 4), .bool false, .int .i64 0, .string (s.extract 8 s.size)] 23
    rw [show (w.alloc (.cells #[.bool false, .bool false, .int .i64 0, .bool false, .int .i64 0, .string ⟨#[]⟩] 23)).heap.size = w.heap.size + 1 by simp] at hG
    have hB : Below w.heap.size w ((w.alloc (.cells #[.bool false, .bool false, .int .i64 0, .bool false, .int .i64 0, .string ⟨#[]⟩] 23)).alloc (.cells #[.bool false, .bool true, .int .i64 (numAt s 4 4), .bool false, .int .i64 0, .string (s.extract 8 s.size)] 23)) := ((Below.refl _ w).alloc (Nat.le_refl _) _).alloc (by simp) _
    generalize (w.alloc (.cells #[.bool false, .bool false, .int .i64 0, .bool false, .int .i64 0, .string ⟨#[]⟩] 23)).alloc (.cells #[.bool false, .bool true, .int .i64 (numAt s 4 4), .bool false, .int .i64 0, .string (s.extract 8 s.size)] 23) = w0 at *
    refine (CG.out _).mono ?_
    rintro e w1 ⟨rfl, hX⟩
    replace hO := hO.below hX
    replace hP := hP.below hX
    replace hG := hG.below hX
    replace hB := hB.trans (hX.mono hB.size)
    clear hX CA CG
    have a0 := hG.2 0 _ rfl
    have a1 := hG.2 1 _ rfl
    have a2 := hG.2 2 _ rfl
    have a3 := hG.2 3 _ rfl
    have a4 := hG.2 4 _ rfl
    have a5 := hG.2 5 _ rfl
    have r0 := hO.2 0 _ rfl
    have r1 := hO.2 1 _ rfl
    have r2 := hO.2 2 _ rfl
    have r3 := hO.2 3 _ rfl
    have r4 := hO.2 4 _ rfl
    have r5 := hO.2 5 _ rfl
    have v0 := hP.2 0
    have v1 := hP.2 1
    have v2 := hP.2 2
    have v3 := hP.2 3
    have v4 := hP.2 4
    have v5 := hP.2 5

    generalize numAt s 4 4 = nk at *
    generalize s.extract 8 s.size = da at *
    by_cases hq : tt = s
    · have hqb := beq_strg hq
      obtain ⟨c1, c2⟩ := HS.out.1 hq
      have hc0 : grC s = 0 := by rw [HC.out, if_pos c1, if_pos c2]
      have Z9 := HYs.out hc0
      have ZZ : Hid (grL (grR s) = #[.bool false, .bool true, .int .i64 nk, .bool false, .int .i64 0, .string da] ∧ grC s = 0) := ⟨by rw [Z9.1, HD.out]; rfl, Z9.2⟩
      clear Z9 hc0 c1 c2 hq HYs HNs HC HS HE HCA
      go_wp2
      refine bodyPost_ret (v := .tuple #[.agg #[.bool false, .bool true, .int .i64 nk, .bool false, .int .i64 0, .string da], .int .i64 0]) ?_ rfl ⟨by rw [ZZ.out.1, ZZ.out.2], ?_⟩
      · simp [results, Try.results10, go_sem, r0, r1, r2, r3, r4, r5]
      · go_grown
    · have hqb := str_ne hq
      replace HE : Hid (decide (tu = s) = grCase s tt) := (HE.out hq).symm
      rw [HCA.out] at HE
      replace HE : Hid (decide (tu = s) = false) := HE
      have Z9 := HNs.out 2 (by rw [HC.out]; rw [if_neg (of_decide_eq_false HE.out)]) (by decide)
      have ZZ : Hid (grL (grR s) = #[.bool false, .bool false, .int .i64 0, .bool false, .int .i64 0, .string ⟨#[]⟩] ∧ grC s = 2) := ⟨by rw [Z9.1]; rfl, Z9.2⟩
      clear Z9 hq HYs HNs HC HS HE HCA
      go_wp2_with fail
      go_quiet (fail)
      go_wp2
      refine bodyPost_ret (v := .tuple #[.agg #[.bool false, .bool false, .int .i64 0, .bool false, .int .i64 0, .string ⟨#[]⟩], .int .i64 2]) ?_ rfl ⟨by rw [ZZ.out.1, ZZ.out.2], ?_⟩
      · simp [results, Try.results10, go_sem, r0, r1, r2, r3, r4, r5]
      · go_grown
        exact hB.trans ⟨rfl, rfl, rfl, Nat.le_refl _, fun _ _ => rfl⟩
  · have Z9 := gr_no (s := s) (k := 1) (by unfold grC; rw [hpD, if_neg h8]) (by decide)
    have ZZ : Hid (grL (grR s) = #[.bool false, .bool false, .int .i64 0, .bool false, .int .i64 0, .string ⟨#[]⟩] ∧ grC s = 1) := ⟨by rw [Z9.1]; rfl, Z9.2⟩
    clear Z9 hpD hga hgb hgc
    have h8i : (s.size : Int) < 8 := by omega
    clear h8
    go_enter Try.func10, Try.ntmps10
    go_wp2
    refine bodyPost_ret (v := .tuple #[.agg #[.bool false, .bool false, .int .i64 0, .bool false, .int .i64 0, .string ⟨#[]⟩], .int .i64 1]) ?_ rfl ⟨by rw [ZZ.out.1, ZZ.out.2], ?_⟩
    · simp [results, Try.results10, go_sem]
    · go_grown
set_option maxRecDepth 100000 in
set_option maxHeartbeats 6400000 in
theorem s_RG011 (s : ByteArray) (w : World) (hs : s.size ≤ 1048576) (h4 : 4 ≤ s.size) (hga : gra s = false) (hgb : grb s = true) (hgc : grc s = true) :
    Calls Try.prog 10 #[.string s] w fun e w' => e = .returned (.tuple #[.agg (grL (grR s)), .int .i64 (grC s)]) ∧ Below w.heap.size w w' := by
  have hpD : gpD s = 12 := by unfold gpD gpS gpK; rw [hga, hgb, hgc]; rfl
  have hmb := numAt_bd s 0 1
  have hm0 : 0 ≤ numAt s 0 1 := hmb.1
  have hm1 : numAt s 0 1 < 256 := hmb.2
  clear hmb
  have hi0 : 0 < s.size := by omega
  have eB := byte0 s hi0
  have b7 : bits .and .i64 (numAt s 0 1 / 128) 1 = 0 := by
    rw [and_1g (by omega) (by omega)]
    have : decide (numAt s 0 1 / 128 % 2 = 1) = false := hga
    have := of_decide_eq_false this
    omega
  have b5 : bits .and .i64 (numAt s 0 1 / 32) 1 = 1 := by
    rw [and_1g (by omega) (by omega)]
    have : decide (numAt s 0 1 / 32 % 2 = 1) = true := hgb
    have := of_decide_eq_true this
    omega
  have b4 : bits .and .i64 (numAt s 0 1 / 16) 1 = 1 := by
    rw [and_1g (by omega) (by omega)]
    have : decide (numAt s 0 1 / 16 % 2 = 1) = true := hgc
    have := of_decide_eq_true this
    omega
  have h4i : ¬ (s.size : Int) < 4 := by omega
  by_cases h8 : 12 ≤ (s.size : Int)
  · have HD : Hid (grd s = ⟨false, true, numAt s 4 4, true, numAt s 8 4, s.extract 12 s.size⟩) := by
      show _ = _
      have e1 : gpK s = 4 := by unfold gpK; rw [hga]; rfl
      have e2 : gpS s = 8 := by unfold gpS; rw [hgb, e1]; rfl
      unfold grd; rw [hga, hgb, hgc, hpD, e1, e2]; rfl
    have bd := grd_data s
    have CA : Hid (∀ (x k : Int) (u : World), 0 ≤ x → 1 ≤ k → k ≤ 7 → x + k ≤ s.size → Calls Try.prog 32 #[.string s, .int .i64 x, .int .i64 k] u fun e w' => e = .returned (.int .i64 (numAt s x k)) ∧ w' = u) := fun x k u h0 h1 h2 h3 => s_Num s x k u (by omega) h0 h1 h2 h3
    have CG : Hid (∀ u : World, Calls Try.prog 26 #[.agg (grL (grd s))] u fun e w' => e = .returned (.string (str (grText (grd s) (grSum (grd s))))) ∧ Below u.heap.size u w') := fun u => s_GreBytes _ u (by omega)
    have HA : Hid (gpD s ≤ s.size) := by show _ ≤ _; rw [hpD]; exact h8
    have HE : Hid (¬ (str (grText (grd s) (grSum (grd s))) = s) → grCase s (str (grText (grd s) (grSum (grd s)))) = decide (str (grText (grd s) (gsv s)) = s)) := fun h => grCase_iff s HA.out h
    have HS : Hid (str (grText (grd s) (grSum (grd s))) = s ↔ str (grText (grd s) (gsv s)) = s ∧ gsv s = grSum (grd s)) := gr_same s HA.out
    have HC : Hid (grC s = if str (grText (grd s) (gsv s)) = s then (if gsv s = grSum (grd s) then 0 else 4) else 2) := by show _ = _; unfold grC; rw [if_pos HA.out]
    have HYs : Hid (grC s = 0 → grR s = grd s ∧ grC s = 0) := fun h => gr_yes h
    have HNs : Hid (∀ k : Int, grC s = k → ¬ k = 0 → grR s = gr0 ∧ grC s = k) := fun k h hk => gr_no h hk
    have HCA : Hid (∀ t : ByteArray, grCase s t = (false && (decide (t.size = s.size) && (decide (t.extract 0 4 = s.extract 0 4) && decide (s.extract 6 8 = ⟨#[0, 0]⟩))))) := fun t => by unfold grCase; rw [hga]
    have htz : (str (grText (grd s) (grSum (grd s)))).size ≤ 1099511627776 := by
      rw [str_size]; unfold grText; split
      · rw [List.length_append, bl_length]; have := grHd_len (grd s) (grSum (grd s)); omega
      · simp
    generalize str (grText (grd s) (grSum (grd s))) = tt at *
    generalize str (grText (grd s) (gsv s)) = tu at *
    generalize hgsd : grSum (grd s) = gs at *
    generalize gsv s = sv at *
    rw [HD.out] at CG
    simp only [grL] at CG
    clear bd HA hga hgb hgc hpD hgsd
    go_enter Try.func10, Try.ntmps10
    go_wp2_with (go_at_call 32; refine (CA.out _ _ _ (by omega) (by omega) (by omega) (by omega)).mono ?_; rintro e wz ⟨rfl, hz⟩; rw [hz]; clear hz wz)
    go_at_call 26
    have hO := (Bx.new w #[.bool false, .bool false, .int .i64 0, .bool false, .int .i64 0, .string ⟨#[]⟩] 23).below ((Below.refl _ _).alloc (Nat.le_refl _) (.cells #[.bool false, .bool true, .int .i64 (numAt s 4 4), .bool true, .int .i64 (numAt s 8 4), .string (s.extract 12 s.size)] 23))
    have hP := (Fx.new w #[.bool false, .bool false, .int .i64 0, .bool false, .int .i64 0, .string ⟨#[]⟩] 23).below ((Below.refl _ _).alloc (Nat.le_refl _) (.cells #[.bool false, .bool true, .int .i64 (numAt s 4 4), .bool true, .int .i64 (numAt s 8 4), .string (s.extract 12 s.size)] 23))
    have hG := Bx.new (w.alloc (.cells #[.bool false, .bool false, .int .i64 0, .bool false, .int .i64 0, .string ⟨#[]⟩] 23)) #[.bool false, .bool true, .int .i64 (numAt s 4 4), .bool true, .int .i64 (numAt s 8 4), .string (s.extract 12 s.size)] 23
    rw [show (w.alloc (.cells #[.bool false, .bool false, .int .i64 0, .bool false, .int .i64 0, .string ⟨#[]⟩] 23)).heap.size = w.heap.size + 1 by simp] at hG
    have hB : Below w.heap.size w ((w.alloc (.cells #[.bool false, .bool false, .int .i64 0, .bool false, .int .i64 0, .string ⟨#[]⟩] 23)).alloc (.cells #[.bool false, .bool true, .int .i64 (numAt s 4 4), .bool true, .int .i64 (numAt s 8 4), .string (s.extract 12 s.size)] 23)) := ((Below.refl _ w).alloc (Nat.le_refl _) _).alloc (by simp) _
    generalize (w.alloc (.cells #[.bool false, .bool false, .int .i64 0, .bool false, .int .i64 0, .string ⟨#[]⟩] 23)).alloc (.cells #[.bool false, .bool true, .int .i64 (numAt s 4 4), .bool true, .int .i64 (numAt s 8 4), .string (s.extract 12 s.size)] 23) = w0 at *
    refine (CG.out _).mono ?_
    rintro e w1 ⟨rfl, hX⟩
    replace hO := hO.below hX
    replace hP := hP.below hX
    replace hG := hG.below hX
    replace hB := hB.trans (hX.mono hB.size)
    clear hX CA CG
    have a0 := hG.2 0 _ rfl
    have a1 := hG.2 1 _ rfl
    have a2 := hG.2 2 _ rfl
    have a3 := hG.2 3 _ rfl
    have a4 := hG.2 4 _ rfl
    have a5 := hG.2 5 _ rfl
    have r0 := hO.2 0 _ rfl
    have r1 := hO.2 1 _ rfl
    have r2 := hO.2 2 _ rfl
    have r3 := hO.2 3 _ rfl
    have r4 := hO.2 4 _ rfl
    have r5 := hO.2 5 _ rfl
    have v0 := hP.2 0
    have v1 := hP.2 1
    have v2 := hP.2 2
    have v3 := hP.2 3
    have v4 := hP.2 4
    have v5 := hP.2 5

    generalize numAt s 4 4 = nk at *
    generalize numAt s 8 4 = ns at *
    generalize s.extract 12 s.size = da at *
    by_cases hq : tt = s
    · have hqb := beq_strg hq
      obtain ⟨c1, c2⟩ := HS.out.1 hq
      have hc0 : grC s = 0 := by rw [HC.out, if_pos c1, if_pos c2]
      have Z9 := HYs.out hc0
      have ZZ : Hid (grL (grR s) = #[.bool false, .bool true, .int .i64 nk, .bool true, .int .i64 ns, .string da] ∧ grC s = 0) := ⟨by rw [Z9.1, HD.out]; rfl, Z9.2⟩
      clear Z9 hc0 c1 c2 hq HYs HNs HC HS HE HCA
      go_wp2
      refine bodyPost_ret (v := .tuple #[.agg #[.bool false, .bool true, .int .i64 nk, .bool true, .int .i64 ns, .string da], .int .i64 0]) ?_ rfl ⟨by rw [ZZ.out.1, ZZ.out.2], ?_⟩
      · simp [results, Try.results10, go_sem, r0, r1, r2, r3, r4, r5]
      · go_grown
    · have hqb := str_ne hq
      replace HE : Hid (decide (tu = s) = grCase s tt) := (HE.out hq).symm
      rw [HCA.out] at HE
      replace HE : Hid (decide (tu = s) = false) := HE
      have Z9 := HNs.out 2 (by rw [HC.out]; rw [if_neg (of_decide_eq_false HE.out)]) (by decide)
      have ZZ : Hid (grL (grR s) = #[.bool false, .bool false, .int .i64 0, .bool false, .int .i64 0, .string ⟨#[]⟩] ∧ grC s = 2) := ⟨by rw [Z9.1]; rfl, Z9.2⟩
      clear Z9 hq HYs HNs HC HS HE HCA
      go_wp2_with fail
      go_quiet (fail)
      go_wp2
      refine bodyPost_ret (v := .tuple #[.agg #[.bool false, .bool false, .int .i64 0, .bool false, .int .i64 0, .string ⟨#[]⟩], .int .i64 2]) ?_ rfl ⟨by rw [ZZ.out.1, ZZ.out.2], ?_⟩
      · simp [results, Try.results10, go_sem, r0, r1, r2, r3, r4, r5]
      · go_grown
        exact hB.trans ⟨rfl, rfl, rfl, Nat.le_refl _, fun _ _ => rfl⟩
  · have Z9 := gr_no (s := s) (k := 1) (by unfold grC; rw [hpD, if_neg h8]) (by decide)
    have ZZ : Hid (grL (grR s) = #[.bool false, .bool false, .int .i64 0, .bool false, .int .i64 0, .string ⟨#[]⟩] ∧ grC s = 1) := ⟨by rw [Z9.1]; rfl, Z9.2⟩
    clear Z9 hpD hga hgb hgc
    have h8i : (s.size : Int) < 12 := by omega
    clear h8
    go_enter Try.func10, Try.ntmps10
    go_wp2
    refine bodyPost_ret (v := .tuple #[.agg #[.bool false, .bool false, .int .i64 0, .bool false, .int .i64 0, .string ⟨#[]⟩], .int .i64 1]) ?_ rfl ⟨by rw [ZZ.out.1, ZZ.out.2], ?_⟩
    · simp [results, Try.results10, go_sem]
    · go_grown
set_option maxRecDepth 100000 in
set_option maxHeartbeats 6400000 in
theorem s_RG100 (s : ByteArray) (w : World) (hs : s.size ≤ 1048576) (h4 : 4 ≤ s.size) (hga : gra s = true) (hgb : grb s = false) (hgc : grc s = false) :
    Calls Try.prog 10 #[.string s] w fun e w' => e = .returned (.tuple #[.agg (grL (grR s)), .int .i64 (grC s)]) ∧ Below w.heap.size w w' := by
  have hpD : gpD s = 8 := by unfold gpD gpS gpK; rw [hga, hgb, hgc]; rfl
  have hmb := numAt_bd s 0 1
  have hm0 : 0 ≤ numAt s 0 1 := hmb.1
  have hm1 : numAt s 0 1 < 256 := hmb.2
  clear hmb
  have hi0 : 0 < s.size := by omega
  have eB := byte0 s hi0
  have b7 : bits .and .i64 (numAt s 0 1 / 128) 1 = 1 := by
    rw [and_1g (by omega) (by omega)]
    have : decide (numAt s 0 1 / 128 % 2 = 1) = true := hga
    have := of_decide_eq_true this
    omega
  have b5 : bits .and .i64 (numAt s 0 1 / 32) 1 = 0 := by
    rw [and_1g (by omega) (by omega)]
    have : decide (numAt s 0 1 / 32 % 2 = 1) = false := hgb
    have := of_decide_eq_false this
    omega
  have b4 : bits .and .i64 (numAt s 0 1 / 16) 1 = 0 := by
    rw [and_1g (by omega) (by omega)]
    have : decide (numAt s 0 1 / 16 % 2 = 1) = false := hgc
    have := of_decide_eq_false this
    omega
  have h4i : ¬ (s.size : Int) < 4 := by omega
  by_cases h8 : 8 ≤ (s.size : Int)
  · have HD : Hid (grd s = ⟨true, false, 0, false, 0, s.extract 8 s.size⟩) := by
      show _ = _
      have e1 : gpK s = 8 := by unfold gpK; rw [hga]; rfl
      have e2 : gpS s = 8 := by unfold gpS; rw [hgb, e1]; rfl
      unfold grd; rw [hga, hgb, hgc, hpD, e1, e2]; rfl
    have bd := grd_data s
    have CA : Hid (∀ (x k : Int) (u : World), 0 ≤ x → 1 ≤ k → k ≤ 7 → x + k ≤ s.size → Calls Try.prog 32 #[.string s, .int .i64 x, .int .i64 k] u fun e w' => e = .returned (.int .i64 (numAt s x k)) ∧ w' = u) := fun x k u h0 h1 h2 h3 => s_Num s x k u (by omega) h0 h1 h2 h3
    have CG : Hid (∀ u : World, Calls Try.prog 26 #[.agg (grL (grd s))] u fun e w' => e = .returned (.string (str (grText (grd s) (grSum (grd s))))) ∧ Below u.heap.size u w') := fun u => s_GreBytes _ u (by omega)
    have HA : Hid (gpD s ≤ s.size) := by show _ ≤ _; rw [hpD]; exact h8
    have HE : Hid (¬ (str (grText (grd s) (grSum (grd s))) = s) → grCase s (str (grText (grd s) (grSum (grd s)))) = decide (str (grText (grd s) (gsv s)) = s)) := fun h => grCase_iff s HA.out h
    have HS : Hid (str (grText (grd s) (grSum (grd s))) = s ↔ str (grText (grd s) (gsv s)) = s ∧ gsv s = grSum (grd s)) := gr_same s HA.out
    have HC : Hid (grC s = if str (grText (grd s) (gsv s)) = s then (if gsv s = grSum (grd s) then 0 else 4) else 2) := by show _ = _; unfold grC; rw [if_pos HA.out]
    have HYs : Hid (grC s = 0 → grR s = grd s ∧ grC s = 0) := fun h => gr_yes h
    have HNs : Hid (∀ k : Int, grC s = k → ¬ k = 0 → grR s = gr0 ∧ grC s = k) := fun k h hk => gr_no h hk
    have HCA : Hid (∀ t : ByteArray, grCase s t = (true && (decide (t.size = s.size) && (decide (t.extract 0 4 = s.extract 0 4) && decide (s.extract 6 8 = ⟨#[0, 0]⟩))))) := fun t => by unfold grCase; rw [hga]
    have htz : (str (grText (grd s) (grSum (grd s)))).size ≤ 1099511627776 := by
      rw [str_size]; unfold grText; split
      · rw [List.length_append, bl_length]; have := grHd_len (grd s) (grSum (grd s)); omega
      · simp
    generalize str (grText (grd s) (grSum (grd s))) = tt at *
    generalize str (grText (grd s) (gsv s)) = tu at *
    generalize hgsd : grSum (grd s) = gs at *
    generalize gsv s = sv at *
    rw [HD.out] at CG
    simp only [grL] at CG
    clear bd HA hga hgb hgc hpD hgsd
    go_enter Try.func10, Try.ntmps10
    go_wp2_with (go_at_call 32; refine (CA.out _ _ _ (by omega) (by omega) (by omega) (by omega)).mono ?_; rintro e wz ⟨rfl, hz⟩; rw [hz]; clear hz wz)
    go_at_call 26
    have hO := (Bx.new w #[.bool false, .bool false, .int .i64 0, .bool false, .int .i64 0, .string ⟨#[]⟩] 23).below ((Below.refl _ _).alloc (Nat.le_refl _) (.cells #[.bool true, .bool false, .int .i64 0, .bool false, .int .i64 0, .string (s.extract 8 s.size)] 23))
    have hP := (Fx.new w #[.bool false, .bool false, .int .i64 0, .bool false, .int .i64 0, .string ⟨#[]⟩] 23).below ((Below.refl _ _).alloc (Nat.le_refl _) (.cells #[.bool true, .bool false, .int .i64 0, .bool false, .int .i64 0, .string (s.extract 8 s.size)] 23))
    have hG := Bx.new (w.alloc (.cells #[.bool false, .bool false, .int .i64 0, .bool false, .int .i64 0, .string ⟨#[]⟩] 23)) #[.bool true, .bool false, .int .i64 0, .bool false, .int .i64 0, .string (s.extract 8 s.size)] 23
    rw [show (w.alloc (.cells #[.bool false, .bool false, .int .i64 0, .bool false, .int .i64 0, .string ⟨#[]⟩] 23)).heap.size = w.heap.size + 1 by simp] at hG
    have hB : Below w.heap.size w ((w.alloc (.cells #[.bool false, .bool false, .int .i64 0, .bool false, .int .i64 0, .string ⟨#[]⟩] 23)).alloc (.cells #[.bool true, .bool false, .int .i64 0, .bool false, .int .i64 0, .string (s.extract 8 s.size)] 23)) := ((Below.refl _ w).alloc (Nat.le_refl _) _).alloc (by simp) _
    generalize (w.alloc (.cells #[.bool false, .bool false, .int .i64 0, .bool false, .int .i64 0, .string ⟨#[]⟩] 23)).alloc (.cells #[.bool true, .bool false, .int .i64 0, .bool false, .int .i64 0, .string (s.extract 8 s.size)] 23) = w0 at *
    refine (CG.out _).mono ?_
    rintro e w1 ⟨rfl, hX⟩
    replace hO := hO.below hX
    replace hP := hP.below hX
    replace hG := hG.below hX
    replace hB := hB.trans (hX.mono hB.size)
    clear hX CA CG
    have a0 := hG.2 0 _ rfl
    have a1 := hG.2 1 _ rfl
    have a2 := hG.2 2 _ rfl
    have a3 := hG.2 3 _ rfl
    have a4 := hG.2 4 _ rfl
    have a5 := hG.2 5 _ rfl
    have r0 := hO.2 0 _ rfl
    have r1 := hO.2 1 _ rfl
    have r2 := hO.2 2 _ rfl
    have r3 := hO.2 3 _ rfl
    have r4 := hO.2 4 _ rfl
    have r5 := hO.2 5 _ rfl
    have v0 := hP.2 0
    have v1 := hP.2 1
    have v2 := hP.2 2
    have v3 := hP.2 3
    have v4 := hP.2 4
    have v5 := hP.2 5

    generalize s.extract 8 s.size = da at *
    by_cases hq : tt = s
    · have hqb := beq_strg hq
      obtain ⟨c1, c2⟩ := HS.out.1 hq
      have hc0 : grC s = 0 := by rw [HC.out, if_pos c1, if_pos c2]
      have Z9 := HYs.out hc0
      have ZZ : Hid (grL (grR s) = #[.bool true, .bool false, .int .i64 0, .bool false, .int .i64 0, .string da] ∧ grC s = 0) := ⟨by rw [Z9.1, HD.out]; rfl, Z9.2⟩
      clear Z9 hc0 c1 c2 hq HYs HNs HC HS HE HCA
      go_wp2
      refine bodyPost_ret (v := .tuple #[.agg #[.bool true, .bool false, .int .i64 0, .bool false, .int .i64 0, .string da], .int .i64 0]) ?_ rfl ⟨by rw [ZZ.out.1, ZZ.out.2], ?_⟩
      · simp [results, Try.results10, go_sem, r0, r1, r2, r3, r4, r5]
      · go_grown
    · have hqb := str_ne hq
      replace HE : Hid (decide (tu = s) = grCase s tt) := (HE.out hq).symm
      rw [HCA.out] at HE
      by_cases hz : tt.size = s.size
      · have hz1 : ((tt.size : Int) == (s.size : Int)) = true := by rw [hz]; simp
        have hz4 : (4 : Int) ≤ (tt.size : Int) := by omega
        have hz5 : (4 : Int) ≤ (s.size : Int) := by omega
        have hz8 : (8 : Int) ≤ (s.size : Int) := by omega
        rw [decide_eq_true hz] at HE
        clear hz
        by_cases hy : tt.extract 0 4 = s.extract 0 4
        · have hy1 := beq_strg hy
          rw [decide_eq_true hy] at HE
          clear hy
          by_cases hx : s.extract 6 8 = ⟨#[0, 0]⟩
          · have hx1 : ((s.extract 6 8).toList == [0, 0]) = true := by have := beq_strg hx; rw [toL00] at this; exact this
            rw [decide_eq_true hx] at HE
            replace HE : Hid (decide (tu = s) = true) := HE
            clear hx
            have Z9 := HNs.out 4 (by rw [HC.out]; rw [if_pos (of_decide_eq_true HE.out), if_neg (fun h => hq (HS.out.2 ⟨of_decide_eq_true HE.out, h⟩))]) (by decide)
            have ZZ : Hid (grL (grR s) = #[.bool false, .bool false, .int .i64 0, .bool false, .int .i64 0, .string ⟨#[]⟩] ∧ grC s = 4) := ⟨by rw [Z9.1]; rfl, Z9.2⟩
            clear Z9 hq HYs HNs HC HS HE HCA
            go_wp2_with fail
            go_quiet (fail)
            go_wp2
            refine bodyPost_ret (v := .tuple #[.agg #[.bool false, .bool false, .int .i64 0, .bool false, .int .i64 0, .string ⟨#[]⟩], .int .i64 4]) ?_ rfl ⟨by rw [ZZ.out.1, ZZ.out.2], ?_⟩
            · simp [results, Try.results10, go_sem, r0, r1, r2, r3, r4, r5]
            · go_grown
              exact hB.trans ⟨rfl, rfl, rfl, Nat.le_refl _, fun _ _ => rfl⟩
          · have hx1 : ((s.extract 6 8).toList == [0, 0]) = false := by have := str_ne hx; rw [toL00] at this; exact this
            rw [decide_eq_false hx] at HE
            replace HE : Hid (decide (tu = s) = false) := HE
            clear hx
            have Z9 := HNs.out 2 (by rw [HC.out]; rw [if_neg (of_decide_eq_false HE.out)]) (by decide)
            have ZZ : Hid (grL (grR s) = #[.bool false, .bool false, .int .i64 0, .bool false, .int .i64 0, .string ⟨#[]⟩] ∧ grC s = 2) := ⟨by rw [Z9.1]; rfl, Z9.2⟩
            clear Z9 hq HYs HNs HC HS HE HCA
            go_wp2_with fail
            go_quiet (fail)
            go_wp2
            refine bodyPost_ret (v := .tuple #[.agg #[.bool false, .bool false, .int .i64 0, .bool false, .int .i64 0, .string ⟨#[]⟩], .int .i64 2]) ?_ rfl ⟨by rw [ZZ.out.1, ZZ.out.2], ?_⟩
            · simp [results, Try.results10, go_sem, r0, r1, r2, r3, r4, r5]
            · go_grown
              exact hB.trans ⟨rfl, rfl, rfl, Nat.le_refl _, fun _ _ => rfl⟩
        · have hy1 := str_ne hy
          rw [decide_eq_false hy] at HE
          replace HE : Hid (decide (tu = s) = false) := HE
          clear hy
          have Z9 := HNs.out 2 (by rw [HC.out]; rw [if_neg (of_decide_eq_false HE.out)]) (by decide)
          have ZZ : Hid (grL (grR s) = #[.bool false, .bool false, .int .i64 0, .bool false, .int .i64 0, .string ⟨#[]⟩] ∧ grC s = 2) := ⟨by rw [Z9.1]; rfl, Z9.2⟩
          clear Z9 hq HYs HNs HC HS HE HCA
          go_wp2_with fail
          go_quiet (fail)
          go_wp2
          refine bodyPost_ret (v := .tuple #[.agg #[.bool false, .bool false, .int .i64 0, .bool false, .int .i64 0, .string ⟨#[]⟩], .int .i64 2]) ?_ rfl ⟨by rw [ZZ.out.1, ZZ.out.2], ?_⟩
          · simp [results, Try.results10, go_sem, r0, r1, r2, r3, r4, r5]
          · go_grown
            exact hB.trans ⟨rfl, rfl, rfl, Nat.le_refl _, fun _ _ => rfl⟩
      · have hz1 : ((tt.size : Int) == (s.size : Int)) = false := by simp; omega
        rw [decide_eq_false hz] at HE
        replace HE : Hid (decide (tu = s) = false) := HE
        clear hz
        have Z9 := HNs.out 2 (by rw [HC.out]; rw [if_neg (of_decide_eq_false HE.out)]) (by decide)
        have ZZ : Hid (grL (grR s) = #[.bool false, .bool false, .int .i64 0, .bool false, .int .i64 0, .string ⟨#[]⟩] ∧ grC s = 2) := ⟨by rw [Z9.1]; rfl, Z9.2⟩
        clear Z9 hq HYs HNs HC HS HE HCA
        go_wp2_with fail
        go_quiet (fail)
        go_wp2
        refine bodyPost_ret (v := .tuple #[.agg #[.bool false, .bool false, .int .i64 0, .bool false, .int .i64 0, .string ⟨#[]⟩], .int .i64 2]) ?_ rfl ⟨by rw [ZZ.out.1, ZZ.out.2], ?_⟩
        · simp [results, Try.results10, go_sem, r0, r1, r2, r3, r4, r5]
        · go_grown
          exact hB.trans ⟨rfl, rfl, rfl, Nat.le_refl _, fun _ _ => rfl⟩
  · have Z9 := gr_no (s := s) (k := 1) (by unfold grC; rw [hpD, if_neg h8]) (by decide)
    have ZZ : Hid (grL (grR s) = #[.bool false, .bool false, .int .i64 0, .bool false, .int .i64 0, .string ⟨#[]⟩] ∧ grC s = 1) := ⟨by rw [Z9.1]; rfl, Z9.2⟩
    clear Z9 hpD hga hgb hgc
    have h8i : (s.size : Int) < 8 := by omega
    clear h8
    go_enter Try.func10, Try.ntmps10
    go_wp2
    refine bodyPost_ret (v := .tuple #[.agg #[.bool false, .bool false, .int .i64 0, .bool false, .int .i64 0, .string ⟨#[]⟩], .int .i64 1]) ?_ rfl ⟨by rw [ZZ.out.1, ZZ.out.2], ?_⟩
    · simp [results, Try.results10, go_sem]
    · go_grown
set_option maxRecDepth 100000 in
set_option maxHeartbeats 6400000 in
theorem s_RG101 (s : ByteArray) (w : World) (hs : s.size ≤ 1048576) (h4 : 4 ≤ s.size) (hga : gra s = true) (hgb : grb s = false) (hgc : grc s = true) :
    Calls Try.prog 10 #[.string s] w fun e w' => e = .returned (.tuple #[.agg (grL (grR s)), .int .i64 (grC s)]) ∧ Below w.heap.size w w' := by
  have hpD : gpD s = 12 := by unfold gpD gpS gpK; rw [hga, hgb, hgc]; rfl
  have hmb := numAt_bd s 0 1
  have hm0 : 0 ≤ numAt s 0 1 := hmb.1
  have hm1 : numAt s 0 1 < 256 := hmb.2
  clear hmb
  have hi0 : 0 < s.size := by omega
  have eB := byte0 s hi0
  have b7 : bits .and .i64 (numAt s 0 1 / 128) 1 = 1 := by
    rw [and_1g (by omega) (by omega)]
    have : decide (numAt s 0 1 / 128 % 2 = 1) = true := hga
    have := of_decide_eq_true this
    omega
  have b5 : bits .and .i64 (numAt s 0 1 / 32) 1 = 0 := by
    rw [and_1g (by omega) (by omega)]
    have : decide (numAt s 0 1 / 32 % 2 = 1) = false := hgb
    have := of_decide_eq_false this
    omega
  have b4 : bits .and .i64 (numAt s 0 1 / 16) 1 = 1 := by
    rw [and_1g (by omega) (by omega)]
    have : decide (numAt s 0 1 / 16 % 2 = 1) = true := hgc
    have := of_decide_eq_true this
    omega
  have h4i : ¬ (s.size : Int) < 4 := by omega
  by_cases h8 : 12 ≤ (s.size : Int)
  · have HD : Hid (grd s = ⟨true, false, 0, true, numAt s 8 4, s.extract 12 s.size⟩) := by
      show _ = _
      have e1 : gpK s = 8 := by unfold gpK; rw [hga]; rfl
      have e2 : gpS s = 8 := by unfold gpS; rw [hgb, e1]; rfl
      unfold grd; rw [hga, hgb, hgc, hpD, e1, e2]; rfl
    have bd := grd_data s
    have CA : Hid (∀ (x k : Int) (u : World), 0 ≤ x → 1 ≤ k → k ≤ 7 → x + k ≤ s.size → Calls Try.prog 32 #[.string s, .int .i64 x, .int .i64 k] u fun e w' => e = .returned (.int .i64 (numAt s x k)) ∧ w' = u) := fun x k u h0 h1 h2 h3 => s_Num s x k u (by omega) h0 h1 h2 h3
    have CG : Hid (∀ u : World, Calls Try.prog 26 #[.agg (grL (grd s))] u fun e w' => e = .returned (.string (str (grText (grd s) (grSum (grd s))))) ∧ Below u.heap.size u w') := fun u => s_GreBytes _ u (by omega)
    have HA : Hid (gpD s ≤ s.size) := by show _ ≤ _; rw [hpD]; exact h8
    have HE : Hid (¬ (str (grText (grd s) (grSum (grd s))) = s) → grCase s (str (grText (grd s) (grSum (grd s)))) = decide (str (grText (grd s) (gsv s)) = s)) := fun h => grCase_iff s HA.out h
    have HS : Hid (str (grText (grd s) (grSum (grd s))) = s ↔ str (grText (grd s) (gsv s)) = s ∧ gsv s = grSum (grd s)) := gr_same s HA.out
    have HC : Hid (grC s = if str (grText (grd s) (gsv s)) = s then (if gsv s = grSum (grd s) then 0 else 4) else 2) := by show _ = _; unfold grC; rw [if_pos HA.out]
    have HYs : Hid (grC s = 0 → grR s = grd s ∧ grC s = 0) := fun h => gr_yes h
    have HNs : Hid (∀ k : Int, grC s = k → ¬ k = 0 → grR s = gr0 ∧ grC s = k) := fun k h hk => gr_no h hk
    have HCA : Hid (∀ t : ByteArray, grCase s t = (true && (decide (t.size = s.size) && (decide (t.extract 0 4 = s.extract 0 4) && decide (s.extract 6 8 = ⟨#[0, 0]⟩))))) := fun t => by unfold grCase; rw [hga]
    have htz : (str (grText (grd s) (grSum (grd s)))).size ≤ 1099511627776 := by
      rw [str_size]; unfold grText; split
      · rw [List.length_append, bl_length]; have := grHd_len (grd s) (grSum (grd s)); omega
      · simp
    generalize str (grText (grd s) (grSum (grd s))) = tt at *
    generalize str (grText (grd s) (gsv s)) = tu at *
    generalize hgsd : grSum (grd s) = gs at *
    generalize gsv s = sv at *
    rw [HD.out] at CG
    simp only [grL] at CG
    clear bd HA hga hgb hgc hpD hgsd
    go_enter Try.func10, Try.ntmps10
    go_wp2_with (go_at_call 32; refine (CA.out _ _ _ (by omega) (by omega) (by omega) (by omega)).mono ?_; rintro e wz ⟨rfl, hz⟩; rw [hz]; clear hz wz)
    go_at_call 26
    have hO := (Bx.new w #[.bool false, .bool false, .int .i64 0, .bool false, .int .i64 0, .string ⟨#[]⟩] 23).below ((Below.refl _ _).alloc (Nat.le_refl _) (.cells #[.bool true, .bool false, .int .i64 0, .bool true, .int .i64 (numAt s 8 4), .string (s.extract 12 s.size)] 23))
    have hP := (Fx.new w #[.bool false, .bool false, .int .i64 0, .bool false, .int .i64 0, .string ⟨#[]⟩] 23).below ((Below.refl _ _).alloc (Nat.le_refl _) (.cells #[.bool true, .bool false, .int .i64 0, .bool true, .int .i64 (numAt s 8 4), .string (s.extract 12 s.size)] 23))
    have hG := Bx.new (w.alloc (.cells #[.bool false, .bool false, .int .i64 0, .bool false, .int .i64 0, .string ⟨#[]⟩] 23)) #[.bool true, .bool false, .int .i64 0, .bool true, .int .i64 (numAt s 8 4), .string (s.extract 12 s.size)] 23
    rw [show (w.alloc (.cells #[.bool false, .bool false, .int .i64 0, .bool false, .int .i64 0, .string ⟨#[]⟩] 23)).heap.size = w.heap.size + 1 by simp] at hG
    have hB : Below w.heap.size w ((w.alloc (.cells #[.bool false, .bool false, .int .i64 0, .bool false, .int .i64 0, .string ⟨#[]⟩] 23)).alloc (.cells #[.bool true, .bool false, .int .i64 0, .bool true, .int .i64 (numAt s 8 4), .string (s.extract 12 s.size)] 23)) := ((Below.refl _ w).alloc (Nat.le_refl _) _).alloc (by simp) _
    generalize (w.alloc (.cells #[.bool false, .bool false, .int .i64 0, .bool false, .int .i64 0, .string ⟨#[]⟩] 23)).alloc (.cells #[.bool true, .bool false, .int .i64 0, .bool true, .int .i64 (numAt s 8 4), .string (s.extract 12 s.size)] 23) = w0 at *
    refine (CG.out _).mono ?_
    rintro e w1 ⟨rfl, hX⟩
    replace hO := hO.below hX
    replace hP := hP.below hX
    replace hG := hG.below hX
    replace hB := hB.trans (hX.mono hB.size)
    clear hX CA CG
    have a0 := hG.2 0 _ rfl
    have a1 := hG.2 1 _ rfl
    have a2 := hG.2 2 _ rfl
    have a3 := hG.2 3 _ rfl
    have a4 := hG.2 4 _ rfl
    have a5 := hG.2 5 _ rfl
    have r0 := hO.2 0 _ rfl
    have r1 := hO.2 1 _ rfl
    have r2 := hO.2 2 _ rfl
    have r3 := hO.2 3 _ rfl
    have r4 := hO.2 4 _ rfl
    have r5 := hO.2 5 _ rfl
    have v0 := hP.2 0
    have v1 := hP.2 1
    have v2 := hP.2 2
    have v3 := hP.2 3
    have v4 := hP.2 4
    have v5 := hP.2 5

    generalize numAt s 8 4 = ns at *
    generalize s.extract 12 s.size = da at *
    by_cases hq : tt = s
    · have hqb := beq_strg hq
      obtain ⟨c1, c2⟩ := HS.out.1 hq
      have hc0 : grC s = 0 := by rw [HC.out, if_pos c1, if_pos c2]
      have Z9 := HYs.out hc0
      have ZZ : Hid (grL (grR s) = #[.bool true, .bool false, .int .i64 0, .bool true, .int .i64 ns, .string da] ∧ grC s = 0) := ⟨by rw [Z9.1, HD.out]; rfl, Z9.2⟩
      clear Z9 hc0 c1 c2 hq HYs HNs HC HS HE HCA
      go_wp2
      refine bodyPost_ret (v := .tuple #[.agg #[.bool true, .bool false, .int .i64 0, .bool true, .int .i64 ns, .string da], .int .i64 0]) ?_ rfl ⟨by rw [ZZ.out.1, ZZ.out.2], ?_⟩
      · simp [results, Try.results10, go_sem, r0, r1, r2, r3, r4, r5]
      · go_grown
    · have hqb := str_ne hq
      replace HE : Hid (decide (tu = s) = grCase s tt) := (HE.out hq).symm
      rw [HCA.out] at HE
      by_cases hz : tt.size = s.size
      · have hz1 : ((tt.size : Int) == (s.size : Int)) = true := by rw [hz]; simp
        have hz4 : (4 : Int) ≤ (tt.size : Int) := by omega
        have hz5 : (4 : Int) ≤ (s.size : Int) := by omega
        have hz8 : (8 : Int) ≤ (s.size : Int) := by omega
        rw [decide_eq_true hz] at HE
        clear hz
        by_cases hy : tt.extract 0 4 = s.extract 0 4
        · have hy1 := beq_strg hy
          rw [decide_eq_true hy] at HE
          clear hy
          by_cases hx : s.extract 6 8 = ⟨#[0, 0]⟩
          · have hx1 : ((s.extract 6 8).toList == [0, 0]) = true := by have := beq_strg hx; rw [toL00] at this; exact this
            rw [decide_eq_true hx] at HE
            replace HE : Hid (decide (tu = s) = true) := HE
            clear hx
            have Z9 := HNs.out 4 (by rw [HC.out]; rw [if_pos (of_decide_eq_true HE.out), if_neg (fun h => hq (HS.out.2 ⟨of_decide_eq_true HE.out, h⟩))]) (by decide)
            have ZZ : Hid (grL (grR s) = #[.bool false, .bool false, .int .i64 0, .bool false, .int .i64 0, .string ⟨#[]⟩] ∧ grC s = 4) := ⟨by rw [Z9.1]; rfl, Z9.2⟩
            clear Z9 hq HYs HNs HC HS HE HCA
            go_wp2_with fail
            go_quiet (fail)
            go_wp2
            refine bodyPost_ret (v := .tuple #[.agg #[.bool false, .bool false, .int .i64 0, .bool false, .int .i64 0, .string ⟨#[]⟩], .int .i64 4]) ?_ rfl ⟨by rw [ZZ.out.1, ZZ.out.2], ?_⟩
            · simp [results, Try.results10, go_sem, r0, r1, r2, r3, r4, r5]
            · go_grown
              exact hB.trans ⟨rfl, rfl, rfl, Nat.le_refl _, fun _ _ => rfl⟩
          · have hx1 : ((s.extract 6 8).toList == [0, 0]) = false := by have := str_ne hx; rw [toL00] at this; exact this
            rw [decide_eq_false hx] at HE
            replace HE : Hid (decide (tu = s) = false) := HE
            clear hx
            have Z9 := HNs.out 2 (by rw [HC.out]; rw [if_neg (of_decide_eq_false HE.out)]) (by decide)
            have ZZ : Hid (grL (grR s) = #[.bool false, .bool false, .int .i64 0, .bool false, .int .i64 0, .string ⟨#[]⟩] ∧ grC s = 2) := ⟨by rw [Z9.1]; rfl, Z9.2⟩
            clear Z9 hq HYs HNs HC HS HE HCA
            go_wp2_with fail
            go_quiet (fail)
            go_wp2
            refine bodyPost_ret (v := .tuple #[.agg #[.bool false, .bool false, .int .i64 0, .bool false, .int .i64 0, .string ⟨#[]⟩], .int .i64 2]) ?_ rfl ⟨by rw [ZZ.out.1, ZZ.out.2], ?_⟩
            · simp [results, Try.results10, go_sem, r0, r1, r2, r3, r4, r5]
            · go_grown
              exact hB.trans ⟨rfl, rfl, rfl, Nat.le_refl _, fun _ _ => rfl⟩
        · have hy1 := str_ne hy
          rw [decide_eq_false hy] at HE
          replace HE : Hid (decide (tu = s) = false) := HE
          clear hy
          have Z9 := HNs.out 2 (by rw [HC.out]; rw [if_neg (of_decide_eq_false HE.out)]) (by decide)
          have ZZ : Hid (grL (grR s) = #[.bool false, .bool false, .int .i64 0, .bool false, .int .i64 0, .string ⟨#[]⟩] ∧ grC s = 2) := ⟨by rw [Z9.1]; rfl, Z9.2⟩
          clear Z9 hq HYs HNs HC HS HE HCA
          go_wp2_with fail
          go_quiet (fail)
          go_wp2
          refine bodyPost_ret (v := .tuple #[.agg #[.bool false, .bool false, .int .i64 0, .bool false, .int .i64 0, .string ⟨#[]⟩], .int .i64 2]) ?_ rfl ⟨by rw [ZZ.out.1, ZZ.out.2], ?_⟩
          · simp [results, Try.results10, go_sem, r0, r1, r2, r3, r4, r5]
          · go_grown
            exact hB.trans ⟨rfl, rfl, rfl, Nat.le_refl _, fun _ _ => rfl⟩
      · have hz1 : ((tt.size : Int) == (s.size : Int)) = false := by simp; omega
        rw [decide_eq_false hz] at HE
        replace HE : Hid (decide (tu = s) = false) := HE
        clear hz
        have Z9 := HNs.out 2 (by rw [HC.out]; rw [if_neg (of_decide_eq_false HE.out)]) (by decide)
        have ZZ : Hid (grL (grR s) = #[.bool false, .bool false, .int .i64 0, .bool false, .int .i64 0, .string ⟨#[]⟩] ∧ grC s = 2) := ⟨by rw [Z9.1]; rfl, Z9.2⟩
        clear Z9 hq HYs HNs HC HS HE HCA
        go_wp2_with fail
        go_quiet (fail)
        go_wp2
        refine bodyPost_ret (v := .tuple #[.agg #[.bool false, .bool false, .int .i64 0, .bool false, .int .i64 0, .string ⟨#[]⟩], .int .i64 2]) ?_ rfl ⟨by rw [ZZ.out.1, ZZ.out.2], ?_⟩
        · simp [results, Try.results10, go_sem, r0, r1, r2, r3, r4, r5]
        · go_grown
          exact hB.trans ⟨rfl, rfl, rfl, Nat.le_refl _, fun _ _ => rfl⟩
  · have Z9 := gr_no (s := s) (k := 1) (by unfold grC; rw [hpD, if_neg h8]) (by decide)
    have ZZ : Hid (grL (grR s) = #[.bool false, .bool false, .int .i64 0, .bool false, .int .i64 0, .string ⟨#[]⟩] ∧ grC s = 1) := ⟨by rw [Z9.1]; rfl, Z9.2⟩
    clear Z9 hpD hga hgb hgc
    have h8i : (s.size : Int) < 12 := by omega
    clear h8
    go_enter Try.func10, Try.ntmps10
    go_wp2
    refine bodyPost_ret (v := .tuple #[.agg #[.bool false, .bool false, .int .i64 0, .bool false, .int .i64 0, .string ⟨#[]⟩], .int .i64 1]) ?_ rfl ⟨by rw [ZZ.out.1, ZZ.out.2], ?_⟩
    · simp [results, Try.results10, go_sem]
    · go_grown
set_option maxRecDepth 100000 in
set_option maxHeartbeats 6400000 in
theorem s_RG110 (s : ByteArray) (w : World) (hs : s.size ≤ 1048576) (h4 : 4 ≤ s.size) (hga : gra s = true) (hgb : grb s = true) (hgc : grc s = false) :
    Calls Try.prog 10 #[.string s] w fun e w' => e = .returned (.tuple #[.agg (grL (grR s)), .int .i64 (grC s)]) ∧ Below w.heap.size w w' := by
  have hpD : gpD s = 12 := by unfold gpD gpS gpK; rw [hga, hgb, hgc]; rfl
  have hmb := numAt_bd s 0 1
  have hm0 : 0 ≤ numAt s 0 1 := hmb.1
  have hm1 : numAt s 0 1 < 256 := hmb.2
  clear hmb
  have hi0 : 0 < s.size := by omega
  have eB := byte0 s hi0
  have b7 : bits .and .i64 (numAt s 0 1 / 128) 1 = 1 := by
    rw [and_1g (by omega) (by omega)]
    have : decide (numAt s 0 1 / 128 % 2 = 1) = true := hga
    have := of_decide_eq_true this
    omega
  have b5 : bits .and .i64 (numAt s 0 1 / 32) 1 = 1 := by
    rw [and_1g (by omega) (by omega)]
    have : decide (numAt s 0 1 / 32 % 2 = 1) = true := hgb
    have := of_decide_eq_true this
    omega
  have b4 : bits .and .i64 (numAt s 0 1 / 16) 1 = 0 := by
    rw [and_1g (by omega) (by omega)]
    have : decide (numAt s 0 1 / 16 % 2 = 1) = false := hgc
    have := of_decide_eq_false this
    omega
  have h4i : ¬ (s.size : Int) < 4 := by omega
  by_cases h8 : 12 ≤ (s.size : Int)
  · have HD : Hid (grd s = ⟨true, true, numAt s 8 4, false, 0, s.extract 12 s.size⟩) := by
      show _ = _
      have e1 : gpK s = 8 := by unfold gpK; rw [hga]; rfl
      have e2 : gpS s = 12 := by unfold gpS; rw [hgb, e1]; rfl
      unfold grd; rw [hga, hgb, hgc, hpD, e1, e2]; rfl
    have bd := grd_data s
    have CA : Hid (∀ (x k : Int) (u : World), 0 ≤ x → 1 ≤ k → k ≤ 7 → x + k ≤ s.size → Calls Try.prog 32 #[.string s, .int .i64 x, .int .i64 k] u fun e w' => e = .returned (.int .i64 (numAt s x k)) ∧ w' = u) := fun x k u h0 h1 h2 h3 => s_Num s x k u (by omega) h0 h1 h2 h3
    have CG : Hid (∀ u : World, Calls Try.prog 26 #[.agg (grL (grd s))] u fun e w' => e = .returned (.string (str (grText (grd s) (grSum (grd s))))) ∧ Below u.heap.size u w') := fun u => s_GreBytes _ u (by omega)
    have HA : Hid (gpD s ≤ s.size) := by show _ ≤ _; rw [hpD]; exact h8
    have HE : Hid (¬ (str (grText (grd s) (grSum (grd s))) = s) → grCase s (str (grText (grd s) (grSum (grd s)))) = decide (str (grText (grd s) (gsv s)) = s)) := fun h => grCase_iff s HA.out h
    have HS : Hid (str (grText (grd s) (grSum (grd s))) = s ↔ str (grText (grd s) (gsv s)) = s ∧ gsv s = grSum (grd s)) := gr_same s HA.out
    have HC : Hid (grC s = if str (grText (grd s) (gsv s)) = s then (if gsv s = grSum (grd s) then 0 else 4) else 2) := by show _ = _; unfold grC; rw [if_pos HA.out]
    have HYs : Hid (grC s = 0 → grR s = grd s ∧ grC s = 0) := fun h => gr_yes h
    have HNs : Hid (∀ k : Int, grC s = k → ¬ k = 0 → grR s = gr0 ∧ grC s = k) := fun k h hk => gr_no h hk
    have HCA : Hid (∀ t : ByteArray, grCase s t = (true && (decide (t.size = s.size) && (decide (t.extract 0 4 = s.extract 0 4) && decide (s.extract 6 8 = ⟨#[0, 0]⟩))))) := fun t => by unfold grCase; rw [hga]
    have htz : (str (grText (grd s) (grSum (grd s)))).size ≤ 1099511627776 := by
      rw [str_size]; unfold grText; split
      · rw [List.length_append, bl_length]; have := grHd_len (grd s) (grSum (grd s)); omega
      · simp
    generalize str (grText (grd s) (grSum (grd s))) = tt at *
    generalize str (grText (grd s) (gsv s)) = tu at *
    generalize hgsd : grSum (grd s) = gs at *
    generalize gsv s = sv at *
    rw [HD.out] at CG
    simp only [grL] at CG
    clear bd HA hga hgb hgc hpD hgsd
    go_enter Try.func10, Try.ntmps10
    go_wp2_with (go_at_call 32; refine (CA.out _ _ _ (by omega) (by omega) (by omega) (by omega)).mono ?_; rintro e wz ⟨rfl, hz⟩; rw [hz]; clear hz wz)
    go_at_call 26
    have hO := (Bx.new w #[.bool false, .bool false, .int .i64 0, .bool false, .int .i64 0, .string ⟨#[]⟩] 23).below ((Below.refl _ _).alloc (Nat.le_refl _) (.cells #[.bool true, .bool true, .int .i64 (numAt s 8 4), .bool false, .int .i64 0, .string (s.extract 12 s.size)] 23))
    have hP := (Fx.new w #[.bool false, .bool false, .int .i64 0, .bool false, .int .i64 0, .string ⟨#[]⟩] 23).below ((Below.refl _ _).alloc (Nat.le_refl _) (.cells #[.bool true, .bool true, .int .i64 (numAt s 8 4), .bool false, .int .i64 0, .string (s.extract 12 s.size)] 23))
    have hG := Bx.new (w.alloc (.cells #[.bool false, .bool false, .int .i64 0, .bool false, .int .i64 0, .string ⟨#[]⟩] 23)) #[.bool true, .bool true, .int .i64 (numAt s 8 4), .bool false, .int .i64 0, .string (s.extract 12 s.size)] 23
    rw [show (w.alloc (.cells #[.bool false, .bool false, .int .i64 0, .bool false, .int .i64 0, .string ⟨#[]⟩] 23)).heap.size = w.heap.size + 1 by simp] at hG
    have hB : Below w.heap.size w ((w.alloc (.cells #[.bool false, .bool false, .int .i64 0, .bool false, .int .i64 0, .string ⟨#[]⟩] 23)).alloc (.cells #[.bool true, .bool true, .int .i64 (numAt s 8 4), .bool false, .int .i64 0, .string (s.extract 12 s.size)] 23)) := ((Below.refl _ w).alloc (Nat.le_refl _) _).alloc (by simp) _
    generalize (w.alloc (.cells #[.bool false, .bool false, .int .i64 0, .bool false, .int .i64 0, .string ⟨#[]⟩] 23)).alloc (.cells #[.bool true, .bool true, .int .i64 (numAt s 8 4), .bool false, .int .i64 0, .string (s.extract 12 s.size)] 23) = w0 at *
    refine (CG.out _).mono ?_
    rintro e w1 ⟨rfl, hX⟩
    replace hO := hO.below hX
    replace hP := hP.below hX
    replace hG := hG.below hX
    replace hB := hB.trans (hX.mono hB.size)
    clear hX CA CG
    have a0 := hG.2 0 _ rfl
    have a1 := hG.2 1 _ rfl
    have a2 := hG.2 2 _ rfl
    have a3 := hG.2 3 _ rfl
    have a4 := hG.2 4 _ rfl
    have a5 := hG.2 5 _ rfl
    have r0 := hO.2 0 _ rfl
    have r1 := hO.2 1 _ rfl
    have r2 := hO.2 2 _ rfl
    have r3 := hO.2 3 _ rfl
    have r4 := hO.2 4 _ rfl
    have r5 := hO.2 5 _ rfl
    have v0 := hP.2 0
    have v1 := hP.2 1
    have v2 := hP.2 2
    have v3 := hP.2 3
    have v4 := hP.2 4
    have v5 := hP.2 5

    generalize numAt s 8 4 = nk at *
    generalize s.extract 12 s.size = da at *
    by_cases hq : tt = s
    · have hqb := beq_strg hq
      obtain ⟨c1, c2⟩ := HS.out.1 hq
      have hc0 : grC s = 0 := by rw [HC.out, if_pos c1, if_pos c2]
      have Z9 := HYs.out hc0
      have ZZ : Hid (grL (grR s) = #[.bool true, .bool true, .int .i64 nk, .bool false, .int .i64 0, .string da] ∧ grC s = 0) := ⟨by rw [Z9.1, HD.out]; rfl, Z9.2⟩
      clear Z9 hc0 c1 c2 hq HYs HNs HC HS HE HCA
      go_wp2
      refine bodyPost_ret (v := .tuple #[.agg #[.bool true, .bool true, .int .i64 nk, .bool false, .int .i64 0, .string da], .int .i64 0]) ?_ rfl ⟨by rw [ZZ.out.1, ZZ.out.2], ?_⟩
      · simp [results, Try.results10, go_sem, r0, r1, r2, r3, r4, r5]
      · go_grown
    · have hqb := str_ne hq
      replace HE : Hid (decide (tu = s) = grCase s tt) := (HE.out hq).symm
      rw [HCA.out] at HE
      by_cases hz : tt.size = s.size
      · have hz1 : ((tt.size : Int) == (s.size : Int)) = true := by rw [hz]; simp
        have hz4 : (4 : Int) ≤ (tt.size : Int) := by omega
        have hz5 : (4 : Int) ≤ (s.size : Int) := by omega
        have hz8 : (8 : Int) ≤ (s.size : Int) := by omega
        rw [decide_eq_true hz] at HE
        clear hz
        by_cases hy : tt.extract 0 4 = s.extract 0 4
        · have hy1 := beq_strg hy
          rw [decide_eq_true hy] at HE
          clear hy
          by_cases hx : s.extract 6 8 = ⟨#[0, 0]⟩
          · have hx1 : ((s.extract 6 8).toList == [0, 0]) = true := by have := beq_strg hx; rw [toL00] at this; exact this
            rw [decide_eq_true hx] at HE
            replace HE : Hid (decide (tu = s) = true) := HE
            clear hx
            have Z9 := HNs.out 4 (by rw [HC.out]; rw [if_pos (of_decide_eq_true HE.out), if_neg (fun h => hq (HS.out.2 ⟨of_decide_eq_true HE.out, h⟩))]) (by decide)
            have ZZ : Hid (grL (grR s) = #[.bool false, .bool false, .int .i64 0, .bool false, .int .i64 0, .string ⟨#[]⟩] ∧ grC s = 4) := ⟨by rw [Z9.1]; rfl, Z9.2⟩
            clear Z9 hq HYs HNs HC HS HE HCA
            go_wp2_with fail
            go_quiet (fail)
            go_wp2
            refine bodyPost_ret (v := .tuple #[.agg #[.bool false, .bool false, .int .i64 0, .bool false, .int .i64 0, .string ⟨#[]⟩], .int .i64 4]) ?_ rfl ⟨by rw [ZZ.out.1, ZZ.out.2], ?_⟩
            · simp [results, Try.results10, go_sem, r0, r1, r2, r3, r4, r5]
            · go_grown
              exact hB.trans ⟨rfl, rfl, rfl, Nat.le_refl _, fun _ _ => rfl⟩
          · have hx1 : ((s.extract 6 8).toList == [0, 0]) = false := by have := str_ne hx; rw [toL00] at this; exact this
            rw [decide_eq_false hx] at HE
            replace HE : Hid (decide (tu = s) = false) := HE
            clear hx
            have Z9 := HNs.out 2 (by rw [HC.out]; rw [if_neg (of_decide_eq_false HE.out)]) (by decide)
            have ZZ : Hid (grL (grR s) = #[.bool false, .bool false, .int .i64 0, .bool false, .int .i64 0, .string ⟨#[]⟩] ∧ grC s = 2) := ⟨by rw [Z9.1]; rfl, Z9.2⟩
            clear Z9 hq HYs HNs HC HS HE HCA
            go_wp2_with fail
            go_quiet (fail)
            go_wp2
            refine bodyPost_ret (v := .tuple #[.agg #[.bool false, .bool false, .int .i64 0, .bool false, .int .i64 0, .string ⟨#[]⟩], .int .i64 2]) ?_ rfl ⟨by rw [ZZ.out.1, ZZ.out.2], ?_⟩
            · simp [results, Try.results10, go_sem, r0, r1, r2, r3, r4, r5]
            · go_grown
              exact hB.trans ⟨rfl, rfl, rfl, Nat.le_refl _, fun _ _ => rfl⟩
        · have hy1 := str_ne hy
          rw [decide_eq_false hy] at HE
          replace HE : Hid (decide (tu = s) = false) := HE
          clear hy
          have Z9 := HNs.out 2 (by rw [HC.out]; rw [if_neg (of_decide_eq_false HE.out)]) (by decide)
          have ZZ : Hid (grL (grR s) = #[.bool false, .bool false, .int .i64 0, .bool false, .int .i64 0, .string ⟨#[]⟩] ∧ grC s = 2) := ⟨by rw [Z9.1]; rfl, Z9.2⟩
          clear Z9 hq HYs HNs HC HS HE HCA
          go_wp2_with fail
          go_quiet (fail)
          go_wp2
          refine bodyPost_ret (v := .tuple #[.agg #[.bool false, .bool false, .int .i64 0, .bool false, .int .i64 0, .string ⟨#[]⟩], .int .i64 2]) ?_ rfl ⟨by rw [ZZ.out.1, ZZ.out.2], ?_⟩
          · simp [results, Try.results10, go_sem, r0, r1, r2, r3, r4, r5]
          · go_grown
            exact hB.trans ⟨rfl, rfl, rfl, Nat.le_refl _, fun _ _ => rfl⟩
      · have hz1 : ((tt.size : Int) == (s.size : Int)) = false := by simp; omega
        rw [decide_eq_false hz] at HE
        replace HE : Hid (decide (tu = s) = false) := HE
        clear hz
        have Z9 := HNs.out 2 (by rw [HC.out]; rw [if_neg (of_decide_eq_false HE.out)]) (by decide)
        have ZZ : Hid (grL (grR s) = #[.bool false, .bool false, .int .i64 0, .bool false, .int .i64 0, .string ⟨#[]⟩] ∧ grC s = 2) := ⟨by rw [Z9.1]; rfl, Z9.2⟩
        clear Z9 hq HYs HNs HC HS HE HCA
        go_wp2_with fail
        go_quiet (fail)
        go_wp2
        refine bodyPost_ret (v := .tuple #[.agg #[.bool false, .bool false, .int .i64 0, .bool false, .int .i64 0, .string ⟨#[]⟩], .int .i64 2]) ?_ rfl ⟨by rw [ZZ.out.1, ZZ.out.2], ?_⟩
        · simp [results, Try.results10, go_sem, r0, r1, r2, r3, r4, r5]
        · go_grown
          exact hB.trans ⟨rfl, rfl, rfl, Nat.le_refl _, fun _ _ => rfl⟩
  · have Z9 := gr_no (s := s) (k := 1) (by unfold grC; rw [hpD, if_neg h8]) (by decide)
    have ZZ : Hid (grL (grR s) = #[.bool false, .bool false, .int .i64 0, .bool false, .int .i64 0, .string ⟨#[]⟩] ∧ grC s = 1) := ⟨by rw [Z9.1]; rfl, Z9.2⟩
    clear Z9 hpD hga hgb hgc
    have h8i : (s.size : Int) < 12 := by omega
    clear h8
    go_enter Try.func10, Try.ntmps10
    go_wp2
    refine bodyPost_ret (v := .tuple #[.agg #[.bool false, .bool false, .int .i64 0, .bool false, .int .i64 0, .string ⟨#[]⟩], .int .i64 1]) ?_ rfl ⟨by rw [ZZ.out.1, ZZ.out.2], ?_⟩
    · simp [results, Try.results10, go_sem]
    · go_grown
set_option maxRecDepth 100000 in
set_option maxHeartbeats 6400000 in
theorem s_RG111 (s : ByteArray) (w : World) (hs : s.size ≤ 1048576) (h4 : 4 ≤ s.size) (hga : gra s = true) (hgb : grb s = true) (hgc : grc s = true) :
    Calls Try.prog 10 #[.string s] w fun e w' => e = .returned (.tuple #[.agg (grL (grR s)), .int .i64 (grC s)]) ∧ Below w.heap.size w w' := by
  have hpD : gpD s = 16 := by unfold gpD gpS gpK; rw [hga, hgb, hgc]; rfl
  have hmb := numAt_bd s 0 1
  have hm0 : 0 ≤ numAt s 0 1 := hmb.1
  have hm1 : numAt s 0 1 < 256 := hmb.2
  clear hmb
  have hi0 : 0 < s.size := by omega
  have eB := byte0 s hi0
  have b7 : bits .and .i64 (numAt s 0 1 / 128) 1 = 1 := by
    rw [and_1g (by omega) (by omega)]
    have : decide (numAt s 0 1 / 128 % 2 = 1) = true := hga
    have := of_decide_eq_true this
    omega
  have b5 : bits .and .i64 (numAt s 0 1 / 32) 1 = 1 := by
    rw [and_1g (by omega) (by omega)]
    have : decide (numAt s 0 1 / 32 % 2 = 1) = true := hgb
    have := of_decide_eq_true this
    omega
  have b4 : bits .and .i64 (numAt s 0 1 / 16) 1 = 1 := by
    rw [and_1g (by omega) (by omega)]
    have : decide (numAt s 0 1 / 16 % 2 = 1) = true := hgc
    have := of_decide_eq_true this
    omega
  have h4i : ¬ (s.size : Int) < 4 := by omega
  by_cases h8 : 16 ≤ (s.size : Int)
  · have HD : Hid (grd s = ⟨true, true, numAt s 8 4, true, numAt s 12 4, s.extract 16 s.size⟩) := by
      show _ = _
      have e1 : gpK s = 8 := by unfold gpK; rw [hga]; rfl
      have e2 : gpS s = 12 := by unfold gpS; rw [hgb, e1]; rfl
      unfold grd; rw [hga, hgb, hgc, hpD, e1, e2]; rfl
    have bd := grd_data s
    have CA : Hid (∀ (x k : Int) (u : World), 0 ≤ x → 1 ≤ k → k ≤ 7 → x + k ≤ s.size → Calls Try.prog 32 #[.string s, .int .i64 x, .int .i64 k] u fun e w' => e = .returned (.int .i64 (numAt s x k)) ∧ w' = u) := fun x k u h0 h1 h2 h3 => s_Num s x k u (by omega) h0 h1 h2 h3
    have CG : Hid (∀ u : World, Calls Try.prog 26 #[.agg (grL (grd s))] u fun e w' => e = .returned (.string (str (grText (grd s) (grSum (grd s))))) ∧ Below u.heap.size u w') := fun u => s_GreBytes _ u (by omega)
    have HA : Hid (gpD s ≤ s.size) := by show _ ≤ _; rw [hpD]; exact h8
    have HE : Hid (¬ (str (grText (grd s) (grSum (grd s))) = s) → grCase s (str (grText (grd s) (grSum (grd s)))) = decide (str (grText (grd s) (gsv s)) = s)) := fun h => grCase_iff s HA.out h
    have HS : Hid (str (grText (grd s) (grSum (grd s))) = s ↔ str (grText (grd s) (gsv s)) = s ∧ gsv s = grSum (grd s)) := gr_same s HA.out
    have HC : Hid (grC s = if str (grText (grd s) (gsv s)) = s then (if gsv s = grSum (grd s) then 0 else 4) else 2) := by show _ = _; unfold grC; rw [if_pos HA.out]
    have HYs : Hid (grC s = 0 → grR s = grd s ∧ grC s = 0) := fun h => gr_yes h
    have HNs : Hid (∀ k : Int, grC s = k → ¬ k = 0 → grR s = gr0 ∧ grC s = k) := fun k h hk => gr_no h hk
    have HCA : Hid (∀ t : ByteArray, grCase s t = (true && (decide (t.size = s.size) && (decide (t.extract 0 4 = s.extract 0 4) && decide (s.extract 6 8 = ⟨#[0, 0]⟩))))) := fun t => by unfold grCase; rw [hga]
    have htz : (str (grText (grd s) (grSum (grd s)))).size ≤ 1099511627776 := by
      rw [str_size]; unfold grText; split
      · rw [List.length_append, bl_length]; have := grHd_len (grd s) (grSum (grd s)); omega
      · simp
    generalize str (grText (grd s) (grSum (grd s))) = tt at *
    generalize str (grText (grd s) (gsv s)) = tu at *
    generalize hgsd : grSum (grd s) = gs at *
    generalize gsv s = sv at *
    rw [HD.out] at CG
    simp only [grL] at CG
    clear bd HA hga hgb hgc hpD hgsd
    go_enter Try.func10, Try.ntmps10
    go_wp2_with (go_at_call 32; refine (CA.out _ _ _ (by omega) (by omega) (by omega) (by omega)).mono ?_; rintro e wz ⟨rfl, hz⟩; rw [hz]; clear hz wz)
    go_at_call 26
    have hO := (Bx.new w #[.bool false, .bool false, .int .i64 0, .bool false, .int .i64 0, .string ⟨#[]⟩] 23).below ((Below.refl _ _).alloc (Nat.le_refl _) (.cells #[.bool true, .bool true, .int .i64 (numAt s 8 4), .bool true, .int .i64 (numAt s 12 4), .string (s.extract 16 s.size)] 23))
    have hP := (Fx.new w #[.bool false, .bool false, .int .i64 0, .bool false, .int .i64 0, .string ⟨#[]⟩] 23).below ((Below.refl _ _).alloc (Nat.le_refl _) (.cells #[.bool true, .bool true, .int .i64 (numAt s 8 4), .bool true, .int .i64 (numAt s 12 4), .string (s.extract 16 s.size)] 23))
    have hG := Bx.new (w.alloc (.cells #[.bool false, .bool false, .int .i64 0, .bool false, .int .i64 0, .string ⟨#[]⟩] 23)) #[.bool true, .bool true, .int .i64 (numAt s 8 4), .bool true, .int .i64 (numAt s 12 4), .string (s.extract 16 s.size)] 23
    rw [show (w.alloc (.cells #[.bool false, .bool false, .int .i64 0, .bool false, .int .i64 0, .string ⟨#[]⟩] 23)).heap.size = w.heap.size + 1 by simp] at hG
    have hB : Below w.heap.size w ((w.alloc (.cells #[.bool false, .bool false, .int .i64 0, .bool false, .int .i64 0, .string ⟨#[]⟩] 23)).alloc (.cells #[.bool true, .bool true, .int .i64 (numAt s 8 4), .bool true, .int .i64 (numAt s 12 4), .string (s.extract 16 s.size)] 23)) := ((Below.refl _ w).alloc (Nat.le_refl _) _).alloc (by simp) _
    generalize (w.alloc (.cells #[.bool false, .bool false, .int .i64 0, .bool false, .int .i64 0, .string ⟨#[]⟩] 23)).alloc (.cells #[.bool true, .bool true, .int .i64 (numAt s 8 4), .bool true, .int .i64 (numAt s 12 4), .string (s.extract 16 s.size)] 23) = w0 at *
    refine (CG.out _).mono ?_
    rintro e w1 ⟨rfl, hX⟩
    replace hO := hO.below hX
    replace hP := hP.below hX
    replace hG := hG.below hX
    replace hB := hB.trans (hX.mono hB.size)
    clear hX CA CG
    have a0 := hG.2 0 _ rfl
    have a1 := hG.2 1 _ rfl
    have a2 := hG.2 2 _ rfl
    have a3 := hG.2 3 _ rfl
    have a4 := hG.2 4 _ rfl
    have a5 := hG.2 5 _ rfl
    have r0 := hO.2 0 _ rfl
    have r1 := hO.2 1 _ rfl
    have r2 := hO.2 2 _ rfl
    have r3 := hO.2 3 _ rfl
    have r4 := hO.2 4 _ rfl
    have r5 := hO.2 5 _ rfl
    have v0 := hP.2 0
    have v1 := hP.2 1
    have v2 := hP.2 2
    have v3 := hP.2 3
    have v4 := hP.2 4
    have v5 := hP.2 5

    generalize numAt s 8 4 = nk at *
    generalize numAt s 12 4 = ns at *
    generalize s.extract 16 s.size = da at *
    by_cases hq : tt = s
    · have hqb := beq_strg hq
      obtain ⟨c1, c2⟩ := HS.out.1 hq
      have hc0 : grC s = 0 := by rw [HC.out, if_pos c1, if_pos c2]
      have Z9 := HYs.out hc0
      have ZZ : Hid (grL (grR s) = #[.bool true, .bool true, .int .i64 nk, .bool true, .int .i64 ns, .string da] ∧ grC s = 0) := ⟨by rw [Z9.1, HD.out]; rfl, Z9.2⟩
      clear Z9 hc0 c1 c2 hq HYs HNs HC HS HE HCA
      go_wp2
      refine bodyPost_ret (v := .tuple #[.agg #[.bool true, .bool true, .int .i64 nk, .bool true, .int .i64 ns, .string da], .int .i64 0]) ?_ rfl ⟨by rw [ZZ.out.1, ZZ.out.2], ?_⟩
      · simp [results, Try.results10, go_sem, r0, r1, r2, r3, r4, r5]
      · go_grown
    · have hqb := str_ne hq
      replace HE : Hid (decide (tu = s) = grCase s tt) := (HE.out hq).symm
      rw [HCA.out] at HE
      by_cases hz : tt.size = s.size
      · have hz1 : ((tt.size : Int) == (s.size : Int)) = true := by rw [hz]; simp
        have hz4 : (4 : Int) ≤ (tt.size : Int) := by omega
        have hz5 : (4 : Int) ≤ (s.size : Int) := by omega
        have hz8 : (8 : Int) ≤ (s.size : Int) := by omega
        rw [decide_eq_true hz] at HE
        clear hz
        by_cases hy : tt.extract 0 4 = s.extract 0 4
        · have hy1 := beq_strg hy
          rw [decide_eq_true hy] at HE
          clear hy
          by_cases hx : s.extract 6 8 = ⟨#[0, 0]⟩
          · have hx1 : ((s.extract 6 8).toList == [0, 0]) = true := by have := beq_strg hx; rw [toL00] at this; exact this
            rw [decide_eq_true hx] at HE
            replace HE : Hid (decide (tu = s) = true) := HE
            clear hx
            have Z9 := HNs.out 4 (by rw [HC.out]; rw [if_pos (of_decide_eq_true HE.out), if_neg (fun h => hq (HS.out.2 ⟨of_decide_eq_true HE.out, h⟩))]) (by decide)
            have ZZ : Hid (grL (grR s) = #[.bool false, .bool false, .int .i64 0, .bool false, .int .i64 0, .string ⟨#[]⟩] ∧ grC s = 4) := ⟨by rw [Z9.1]; rfl, Z9.2⟩
            clear Z9 hq HYs HNs HC HS HE HCA
            go_wp2_with fail
            go_quiet (fail)
            go_wp2
            refine bodyPost_ret (v := .tuple #[.agg #[.bool false, .bool false, .int .i64 0, .bool false, .int .i64 0, .string ⟨#[]⟩], .int .i64 4]) ?_ rfl ⟨by rw [ZZ.out.1, ZZ.out.2], ?_⟩
            · simp [results, Try.results10, go_sem, r0, r1, r2, r3, r4, r5]
            · go_grown
              exact hB.trans ⟨rfl, rfl, rfl, Nat.le_refl _, fun _ _ => rfl⟩
          · have hx1 : ((s.extract 6 8).toList == [0, 0]) = false := by have := str_ne hx; rw [toL00] at this; exact this
            rw [decide_eq_false hx] at HE
            replace HE : Hid (decide (tu = s) = false) := HE
            clear hx
            have Z9 := HNs.out 2 (by rw [HC.out]; rw [if_neg (of_decide_eq_false HE.out)]) (by decide)
            have ZZ : Hid (grL (grR s) = #[.bool false, .bool false, .int .i64 0, .bool false, .int .i64 0, .string ⟨#[]⟩] ∧ grC s = 2) := ⟨by rw [Z9.1]; rfl, Z9.2⟩
            clear Z9 hq HYs HNs HC HS HE HCA
            go_wp2_with fail
            go_quiet (fail)
            go_wp2
            refine bodyPost_ret (v := .tuple #[.agg #[.bool false, .bool false, .int .i64 0, .bool false, .int .i64 0, .string ⟨#[]⟩], .int .i64 2]) ?_ rfl ⟨by rw [ZZ.out.1, ZZ.out.2], ?_⟩
            · simp [results, Try.results10, go_sem, r0, r1, r2, r3, r4, r5]
            · go_grown
              exact hB.trans ⟨rfl, rfl, rfl, Nat.le_refl _, fun _ _ => rfl⟩
        · have hy1 := str_ne hy
          rw [decide_eq_false hy] at HE
          replace HE : Hid (decide (tu = s) = false) := HE
          clear hy
          have Z9 := HNs.out 2 (by rw [HC.out]; rw [if_neg (of_decide_eq_false HE.out)]) (by decide)
          have ZZ : Hid (grL (grR s) = #[.bool false, .bool false, .int .i64 0, .bool false, .int .i64 0, .string ⟨#[]⟩] ∧ grC s = 2) := ⟨by rw [Z9.1]; rfl, Z9.2⟩
          clear Z9 hq HYs HNs HC HS HE HCA
          go_wp2_with fail
          go_quiet (fail)
          go_wp2
          refine bodyPost_ret (v := .tuple #[.agg #[.bool false, .bool false, .int .i64 0, .bool false, .int .i64 0, .string ⟨#[]⟩], .int .i64 2]) ?_ rfl ⟨by rw [ZZ.out.1, ZZ.out.2], ?_⟩
          · simp [results, Try.results10, go_sem, r0, r1, r2, r3, r4, r5]
          · go_grown
            exact hB.trans ⟨rfl, rfl, rfl, Nat.le_refl _, fun _ _ => rfl⟩
      · have hz1 : ((tt.size : Int) == (s.size : Int)) = false := by simp; omega
        rw [decide_eq_false hz] at HE
        replace HE : Hid (decide (tu = s) = false) := HE
        clear hz
        have Z9 := HNs.out 2 (by rw [HC.out]; rw [if_neg (of_decide_eq_false HE.out)]) (by decide)
        have ZZ : Hid (grL (grR s) = #[.bool false, .bool false, .int .i64 0, .bool false, .int .i64 0, .string ⟨#[]⟩] ∧ grC s = 2) := ⟨by rw [Z9.1]; rfl, Z9.2⟩
        clear Z9 hq HYs HNs HC HS HE HCA
        go_wp2_with fail
        go_quiet (fail)
        go_wp2
        refine bodyPost_ret (v := .tuple #[.agg #[.bool false, .bool false, .int .i64 0, .bool false, .int .i64 0, .string ⟨#[]⟩], .int .i64 2]) ?_ rfl ⟨by rw [ZZ.out.1, ZZ.out.2], ?_⟩
        · simp [results, Try.results10, go_sem, r0, r1, r2, r3, r4, r5]
        · go_grown
          exact hB.trans ⟨rfl, rfl, rfl, Nat.le_refl _, fun _ _ => rfl⟩
  · have Z9 := gr_no (s := s) (k := 1) (by unfold grC; rw [hpD, if_neg h8]) (by decide)
    have ZZ : Hid (grL (grR s) = #[.bool false, .bool false, .int .i64 0, .bool false, .int .i64 0, .string ⟨#[]⟩] ∧ grC s = 1) := ⟨by rw [Z9.1]; rfl, Z9.2⟩
    clear Z9 hpD hga hgb hgc
    have h8i : (s.size : Int) < 16 := by omega
    clear h8
    go_enter Try.func10, Try.ntmps10
    go_wp2
    refine bodyPost_ret (v := .tuple #[.agg #[.bool false, .bool false, .int .i64 0, .bool false, .int .i64 0, .string ⟨#[]⟩], .int .i64 1]) ?_ rfl ⟨by rw [ZZ.out.1, ZZ.out.2], ?_⟩
    · simp [results, Try.results10, go_sem]
    · go_grown
theorem s_ReadGre (s : ByteArray) (w : World) (hs : s.size ≤ 1048576) :
    Calls Try.prog 10 #[.string s] w fun e w' => e = .returned (.tuple #[.agg (grL (grR s)), .int .i64 (grC s)]) ∧ Below w.heap.size w w' := by
  by_cases h4 : s.size < 4
  · exact s_RGshort s w hs h4
  · have h4' : 4 ≤ s.size := by omega
    cases ha : gra s <;> cases hb : grb s <;> cases hc : grc s
    · exact s_RG000 s w hs h4' ha hb hc
    · exact s_RG001 s w hs h4' ha hb hc
    · exact s_RG010 s w hs h4' ha hb hc
    · exact s_RG011 s w hs h4' ha hb hc
    · exact s_RG100 s w hs h4' ha hb hc
    · exact s_RG101 s w hs h4' ha hb hc
    · exact s_RG110 s w hs h4' ha hb hc
    · exact s_RG111 s w hs h4' ha hb hc
end Go.Proofs.Ytgbpecjgpiffmaa
