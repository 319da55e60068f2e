/-
  The bytes of a GRE, by the model; the exact law on it.
-/
import Derived.Test.YtgbpecjgpiffmaaGre2
namespace Go.Proofs.Ytgbpecjgpiffmaa
open Go.RowKit Go.PlainAid
set_option maxRecDepth 100000 in
set_option maxHeartbeats 6400000 in
theorem s_Gre (g : GrV) (w : World) (hd : g.data.size ≤ 1099511627776) : Calls Try.prog 51 #[.agg (grL g)] w fun e w' => e = .returned (.bool (grOk g && carB g.data)) ∧ Below w.heap.size w w' := by
  have HK : Hid (∀ v : Bool, (v = (addrB g.key && addrB g.seq && (g.hasKey || decide (g.key = 0)) && (g.hasSeq || decide (g.seq = 0)) && carB g.data)) → v = (grOk g && carB g.data)) := fun v hv => by
    rw [hv]; unfold grOk grN addrB
    cases g.hasKey <;> cases g.hasSeq <;> simp only [Bool.false_eq_true, if_false, if_true, Bool.false_or, Bool.true_or, Bool.and_true]
    · by_cases h1 : g.key = 0
      · by_cases h2 : g.seq = 0
        · rw [h1, h2]; rfl
        · simp [h2]
      · simp [h1]
    · by_cases h1 : g.key = 0
      · rw [h1]; simp [inB]
      · simp [h1]
    · by_cases h1 : g.seq = 0
      · rw [h1]; simp [inB]
      · simp [h1]
  have CA : Hid (∀ (n : Int) (u : World), Calls Try.prog 71 #[.int .i64 n] u fun e w' => e = .returned (.bool (addrB n)) ∧ w' = u) := fun n u => s_Addr n u
  have CG : Hid (∀ u : World, Calls Try.prog 40 #[.string g.data] u fun e w' => e = .returned (.bool (!carB g.data)) ∧ w' = u) := fun u => s_Long g.data u hd
  have hB : Below w.heap.size w (w.alloc (.cells (grL g) 23)) := (Below.refl _ w).alloc (Nat.le_refl _) _
  generalize (grOk g && carB g.data) = ok at *
  generalize carB g.data = cb at *
  obtain ⟨a, b, x, c, y, d⟩ := g
  simp only [grL] at *
  cases hx : addrB x
  · rw [hx] at HK
    go_enter Try.func51, Try.ntmps51
    go_wp2_with (go_at_call 71; refine (CA.out _ _).mono ?_; rintro e wz ⟨rfl, hz⟩; rw [hz, hx]; clear hz wz)
    go_ret
    exact ⟨ret_bool (HK.out _ (by simp)), hB⟩
  · rw [hx] at HK
    cases hy : addrB y
    · rw [hy] at HK
      go_enter Try.func51, Try.ntmps51
      go_wp2_with (first | (go_at_call 71; refine (CA.out _ _).mono ?_; rintro e wz ⟨rfl, hz⟩; rw [hz]; clear hz wz; first | rw [hx] | rw [hy]) | (go_at_call 40; refine (CG.out _).mono ?_; rintro e wz ⟨rfl, hz⟩; rw [hz]; clear hz wz))
      go_ret
      exact ⟨ret_bool (HK.out _ (by simp)), hB⟩
    · rw [hy] at HK
      cases b
      · by_cases hx0 : x = 0
        · have hx1 : (x == 0) = true := by simp [hx0]
          rw [decide_eq_true hx0] at HK
          clear hx0
          cases c
          · by_cases hy0 : y = 0
            · have hy1 : (y == 0) = true := by simp [hy0]
              rw [decide_eq_true hy0] at HK
              clear hy0
              go_enter Try.func51, Try.ntmps51
              go_wp2_with (first | (go_at_call 71; refine (CA.out _ _).mono ?_; rintro e wz ⟨rfl, hz⟩; rw [hz]; clear hz wz; first | rw [hx] | rw [hy]) | (go_at_call 40; refine (CG.out _).mono ?_; rintro e wz ⟨rfl, hz⟩; rw [hz]; clear hz wz))
              go_ret
              exact ⟨ret_bool (HK.out _ (by simp)), hB⟩
            · have hy1 : (y == 0) = false := by simp [hy0]
              rw [decide_eq_false hy0] at HK
              clear hy0
              go_enter Try.func51, Try.ntmps51
              go_wp2_with (first | (go_at_call 71; refine (CA.out _ _).mono ?_; rintro e wz ⟨rfl, hz⟩; rw [hz]; clear hz wz; first | rw [hx] | rw [hy]) | (go_at_call 40; refine (CG.out _).mono ?_; rintro e wz ⟨rfl, hz⟩; rw [hz]; clear hz wz))
              go_ret
              exact ⟨ret_bool (HK.out _ (by simp)), hB⟩
          · skip
            go_enter Try.func51, Try.ntmps51
            go_wp2_with (first | (go_at_call 71; refine (CA.out _ _).mono ?_; rintro e wz ⟨rfl, hz⟩; rw [hz]; clear hz wz; first | rw [hx] | rw [hy]) | (go_at_call 40; refine (CG.out _).mono ?_; rintro e wz ⟨rfl, hz⟩; rw [hz]; clear hz wz))
            go_ret
            exact ⟨ret_bool (HK.out _ (by simp)), hB⟩
        · have hx1 : (x == 0) = false := by simp [hx0]
          rw [decide_eq_false hx0] at HK
          clear hx0
          go_enter Try.func51, Try.ntmps51
          go_wp2_with (first | (go_at_call 71; refine (CA.out _ _).mono ?_; rintro e wz ⟨rfl, hz⟩; rw [hz]; clear hz wz; first | rw [hx] | rw [hy]) | (go_at_call 40; refine (CG.out _).mono ?_; rintro e wz ⟨rfl, hz⟩; rw [hz]; clear hz wz))
          go_ret
          exact ⟨ret_bool (HK.out _ (by simp)), hB⟩
      · skip
        cases c
        · by_cases hy0 : y = 0
          · have hy1 : (y == 0) = true := by simp [hy0]
            rw [decide_eq_true hy0] at HK
            clear hy0
            go_enter Try.func51, Try.ntmps51
            go_wp2_with (first | (go_at_call 71; refine (CA.out _ _).mono ?_; rintro e wz ⟨rfl, hz⟩; rw [hz]; clear hz wz; first | rw [hx] | rw [hy]) | (go_at_call 40; refine (CG.out _).mono ?_; rintro e wz ⟨rfl, hz⟩; rw [hz]; clear hz wz))
            go_ret
            exact ⟨ret_bool (HK.out _ (by simp)), hB⟩
          · have hy1 : (y == 0) = false := by simp [hy0]
            rw [decide_eq_false hy0] at HK
            clear hy0
            go_enter Try.func51, Try.ntmps51
            go_wp2_with (first | (go_at_call 71; refine (CA.out _ _).mono ?_; rintro e wz ⟨rfl, hz⟩; rw [hz]; clear hz wz; first | rw [hx] | rw [hy]) | (go_at_call 40; refine (CG.out _).mono ?_; rintro e wz ⟨rfl, hz⟩; rw [hz]; clear hz wz))
            go_ret
            exact ⟨ret_bool (HK.out _ (by simp)), hB⟩
        · skip
          go_enter Try.func51, Try.ntmps51
          go_wp2_with (first | (go_at_call 71; refine (CA.out _ _).mono ?_; rintro e wz ⟨rfl, hz⟩; rw [hz]; clear hz wz; first | rw [hx] | rw [hy]) | (go_at_call 40; refine (CG.out _).mono ?_; rintro e wz ⟨rfl, hz⟩; rw [hz]; clear hz wz))
          go_ret
          exact ⟨ret_bool (HK.out _ (by simp)), hB⟩
set_option maxRecDepth 100000 in
set_option maxHeartbeats 12800000 in
theorem s_GreBytes (g : GrV) (w : World) (hd : g.data.size ≤ 1048576) : Calls Try.prog 26 #[.agg (grL g)] w fun e w' => e = .returned (.string (str (grText g (grSum g)))) ∧ Below w.heap.size w w' := by
  have CK : Hid (∀ u : World, Calls Try.prog 51 #[.agg (grL g)] u fun e w' => e = .returned (.bool (grOk g && carB g.data)) ∧ Below u.heap.size u w') := fun u => s_Gre g u (by omega)
  have BE : Hid (∀ (n k : Int) (u : World), 0 ≤ k → k ≤ 8 → Calls Try.prog 41 #[.int .i64 n, .int .i64 k] u fun e w' => e = .returned (.string (str (be k.toNat n))) ∧ Below u.heap.size u w') := fun n k u h1 h2 => be_any n k u h1 h2
  have hA : Bx (w.alloc (.cells (grL g) 23)) w.heap.size [.bool g.sum, .bool g.hasKey, .int .i64 g.key, .bool g.hasSeq, .int .i64 g.seq, .string g.data] := Bx.new w _ _
  have hB : Below w.heap.size w (w.alloc (.cells (grL g) 23)) := (Below.refl _ w).alloc (Nat.le_refl _) _
  have HT : Hid (grText g (grSum g) = if grOk g && carB g.data then grHd g (grSum g) ++ bl g.data else []) := rfl
  cases hok : grOk g && carB g.data
  · have HE : Hid (grText g (grSum g) = []) := by rw [HT.out, hok]; rfl
    rw [hok] at CK
    clear hok HT
    generalize grText g (grSum g) = tx at *
    obtain ⟨a, b, x, c, y, d⟩ := g
    simp only [grL] at *
    have a0 := hA.2 0 _ rfl
    have a1 := hA.2 1 _ rfl
    have a2 := hA.2 2 _ rfl
    have a3 := hA.2 3 _ rfl
    have a4 := hA.2 4 _ rfl
    have a5 := hA.2 5 _ rfl
    go_enter Try.func26, Try.ntmps26
    go_wp2_with (go_at_call 51; refine (CK.out _).mono ?_; rintro e w1 ⟨rfl, hb1⟩)
    go_ret
    exact ⟨by rw [HE.out]; rfl, hB.trans (hb1.mono hB.size)⟩
  · rw [hok] at CK
    have hok2 := hok
    rw [Bool.and_eq_true] at hok2
    obtain ⟨ok1, ok2⟩ := hok2
    unfold grOk at ok1
    rw [Bool.and_eq_true] at ok1
    have hcs : g.data.size ≤ 65000 := of_decide_eq_true ok2
    have kx : g.hasKey = true → bytesOf g.key 4 = be 4 g.key := fun hh => by
      have := ok1.1
      unfold grN at this; rw [hh, if_pos rfl] at this
      obtain ⟨q0, q1⟩ := of_inB this
      exact okB_of (by decide) (by decide) q0 (by simp only [Int.reduceToNat, Int.reducePow]; omega)
    have ky : g.hasSeq = true → bytesOf g.seq 4 = be 4 g.seq := fun hh => by
      have := ok1.2
      unfold grN at this; rw [hh, if_pos rfl] at this
      obtain ⟨q0, q1⟩ := of_inB this
      exact okB_of (by decide) (by decide) q0 (by simp only [Int.reduceToNat, Int.reducePow]; omega)
    have HD : ∀ sv, grHd g sv = be 1 (grFl g) ++ be 1 0 ++ be 2 25944 ++ (if g.sum then be 2 sv ++ be 2 0 else []) ++ (if g.hasKey then be 4 g.key else []) ++ (if g.hasSeq then be 4 g.seq else []) := fun sv => by
      unfold grHd
      congr 1
      · congr 1
        cases hh : g.hasKey
        · rfl
        · simp only [if_true]; exact kx hh
      · cases hh : g.hasSeq
        · rfl
        · simp only [if_true]; exact ky hh
    have HE : Hid (grText g (grSum g) = be 1 (grFl g) ++ be 1 0 ++ be 2 25944 ++ (if g.sum then be 2 (grSum g) ++ be 2 0 else []) ++ (if g.hasKey then be 4 g.key else []) ++ (if g.hasSeq then be 4 g.seq else []) ++ bl g.data) := by
      show _ = _
      rw [HT.out, hok, if_pos rfl, HD]
    have CU : Hid (g.sum = true → ∀ (S : ByteArray) (u : World), S = str (be 1 (grFl g) ++ be 1 0 ++ be 2 25944 ++ (if g.sum then be 2 0 ++ be 2 0 else []) ++ (if g.hasKey then be 4 g.key else []) ++ (if g.hasSeq then be 4 g.seq else []) ++ bl g.data) → Calls Try.prog 52 #[.string S] u fun e w' => e = .returned (.int .i64 (grSum g)) ∧ w' = u) := fun hs S u hS => by
      rw [← HD] at hS
      have hsz : S.size ≤ 1099511627776 := by
        have := grHd_len g 0
        rw [hS, str_size, List.length_append, bl_length]; omega
      have := s_SumOf S u hsz
      rw [hS, bl_str] at this
      unfold grSum
      rw [hs, if_pos rfl, hS]; exact this
    have b1 : ∀ n, (be 1 n).length = 1 := fun n => be_length 1 n
    have b2 : ∀ n, (be 2 n).length = 2 := fun n => be_length 2 n
    have b4 : ∀ n, (be 4 n).length = 4 := fun n => be_length 4 n
    have E0 : (⟨#[]⟩ : ByteArray) = str [] := rfl
    have E1 : (⟨#[0]⟩ : ByteArray) = str (be 1 0) := by decide
    have E2 : be 4 0 = be 2 0 ++ be 2 0 := by decide
    have HN : Hid ((⟨#[]⟩ : ByteArray) = str [] ∧ (⟨#[0]⟩ : ByteArray) = str (be 1 0) ∧ be 4 0 = be 2 0 ++ be 2 0) := ⟨E0, E1, E2⟩
    clear HT hok ok1 ok2 kx ky HD E0 E1 E2
    generalize grText g (grSum g) = tx at *
    generalize grSum g = gs at *
    obtain ⟨a, b, x, c, y, d⟩ := g
    simp only [grL, grFl] at *
    cases a <;> cases b <;> cases c
    all_goals
      simp only [Bool.false_eq_true, if_false, if_true, List.append_nil, Int.reduceAdd, false_implies, forall_const] at HE CU
      go_enter Try.func26, Try.ntmps26
      go_wp2_with (first | (go_at_call 51; refine (CK.out _).mono ?_; rintro e wq ⟨rfl, hq⟩; replace hB := hB.trans (hq.mono hB.size); replace hA := hA.below hq; clear hq; (try clear a0 a1 a2 a3 a4 a5); have a0 := hA.2 0 _ rfl; have a1 := hA.2 1 _ rfl; have a2 := hA.2 2 _ rfl; have a3 := hA.2 3 _ rfl; have a4 := hA.2 4 _ rfl; have a5 := hA.2 5 _ rfl) | (go_at_call 52; refine (CU.out _ _ (by obtain ⟨_, E1, E2⟩ := HN.out; simp only [E1, E2, str_app_bl, bl_str, List.nil_append, List.append_assoc])).mono ?_; rintro e wz ⟨rfl, hz⟩; rw [hz]; clear hz wz) | (go_at_call 41; refine (BE.out _ _ _ (by decide) (by decide)).mono ?_; rintro e wq ⟨rfl, hq⟩; replace hB := hB.trans (hq.mono hB.size); replace hA := hA.below hq; clear hq; (try clear a0 a1 a2 a3 a4 a5); have a0 := hA.2 0 _ rfl; have a1 := hA.2 1 _ rfl; have a2 := hA.2 2 _ rfl; have a3 := hA.2 3 _ rfl; have a4 := hA.2 4 _ rfl; have a5 := hA.2 5 _ rfl))
      go_ret
      exact ⟨ret_strb (by obtain ⟨_, E1, _⟩ := HN.out; rw [HE.out]; simp only [E1, str_app_bl, bl_str, List.nil_append, List.append_assoc]; try rfl), hB⟩
end Go.Proofs.Ytgbpecjgpiffmaa
