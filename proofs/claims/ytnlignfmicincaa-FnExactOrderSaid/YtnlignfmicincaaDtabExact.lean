/-
  Draws of tables asked exactly.
-/
import Derived.Test.YtnlignfmicincaaDtab0
import Derived.Test.YtnlignfmicincaaTabLExact
namespace Go.Proofs.Ytnlignfmicincaa
open Go.RowKit Go.PlainAid
theorem exPut_pos (l : List ExV) (r : ExV) (h : exPutC l r = 0) : 1 ≤ (exPutR l r).length := by
  unfold exPutR
  rw [if_pos h, putL_length]
  cases ht : there exLt (⟨0, 0⟩ : ExV) l r with
  | false => simp
  | true => have := (there_iff _ l r).1 ht; simp; omega
set_option maxRecDepth 100000 in
set_option maxHeartbeats 6400000 in
theorem r_exacts (b : Nat) (C : Option Addr) (len cap : Nat) (w : World) (h : RdI w b C len cap) :
    Calls Try.prog 23 #[.pointer (some ⟨b, 0, none⟩)] w fun e w' => ∃ (v : Value) (l : List ExV), e = .returned v ∧ ownR w' w.heap.size 52 2 v l.length (exF l) ∧ l.length ≤ 50 ∧ v ≠ .slice none 0 0 ∧ RdI w' b C len cap ∧ Only b w w' := by
  have hbw := h.lt
  have hO0 : ownR (w.alloc (.cells #[] 52)) w.heap.size 52 2 (.slice (some ⟨w.heap.size, 0, none⟩) 0 0) 0 [] := World.ownsRow_made w #[] 0 (Nat.le_refl _) (by decide) rfl
  have hB0 : Below w.heap.size w (w.alloc (.cells #[] 52)) := (Below.refl _ w).alloc (Nat.le_refl _) _
  have hR0 := h.alloc (.cells #[] 52)
  go_enter Try.func23, Try.ntmps23
  go_wp2_with fail
  generalize hW : w.alloc _ = w0 at *
  clear hW
  refine (r_below _ C len cap _ _ (by omega) hR0).mono ?_
  rintro e w1 ⟨x, rfl, hx0, hx1, hR1, hO1⟩
  obtain ⟨N, rfl⟩ := Int.eq_ofNat_of_zero_le hx0
  have hN : N ≤ 5 := by omega
  have ho1 := own_kept hO0 hO1 (fun k hk => by have := (World.ownsRow.lt hO0 k hk).1; simp; omega)
  have hQ1 : Only b w w1 := (below_onlyT hB0).trans hO1
  go_wp2
  go_loopw [3, 4] (fun v i wr => ∃ (k : Nat) (l : List ExV), i = .int .i64 (k : Int) ∧ l.length + k ≤ N ∧ ownR wr w.heap.size 52 2 v l.length (exF l) ∧ v ≠ .slice none 0 0 ∧ RdI wr b C len cap ∧ Only b w wr) (fun _ i _ => (intOf i).toNat)
  case atStart => exact ⟨N, [], rfl, by simp, ho1, by simp, hR1, hQ1⟩
  case round =>
    obtain ⟨k, l, rfl, hk, ho, hvn, hR, hQ⟩ := hrel
    obtain ⟨T, c, rfl⟩ := ho.form
    have hsz := hQ.size
    by_cases hlt : 0 < k
    · go_wp2_with fail
      refine (r_macT _ C len cap _ hR).mono ?_
      rintro e w2 ⟨x, rfl, hR2, hO2⟩
      go_wp2_with fail
      refine (r_below _ C len cap _ _ (by omega) hR2).mono ?_
      rintro e w3 ⟨y, rfl, hy0, hy1, hR3, hO3⟩
      have hO := hO2.trans hO3
      have ho3 := own_kept ho hO (fun k hk => by have := (World.ownsRow.lt ho k hk).1; simp; omega)
      have hQ3 := hQ.trans hO
      have hz3 := hQ3.size
      have CP : Hid (∀ u : World, u = w3 → Calls Try.prog 13 #[.slice T l.length c, .int .i64 x, .int .i64 (1 + y)] u fun e w' => ∃ v, e = .returned (.tuple #[v, .int .i64 (exPutC l ⟨x, 1 + y⟩)]) ∧ ownR w' u.heap.size 52 2 v (exPutR l ⟨x, 1 + y⟩).length (exF (exPutR l ⟨x, 1 + y⟩)) ∧ Below u.heap.size u w') := by
        rintro u rfl; exact s_ExactPut T c l ⟨x, 1 + y⟩ u ho3.reads.2 (by omega)
      have hpl := exPut_len l x (1 + y)
      have HP1 : Hid (exPutC l ⟨x, 1 + y⟩ = 0 → 1 ≤ (exPutR l ⟨x, 1 + y⟩).length) := fun h => exPut_pos l _ h
      generalize exPutC l ⟨x, 1 + y⟩ = pc at *
      generalize exPutR l ⟨x, 1 + y⟩ = pr at *
      go_wp2_with fail
      go_at_call 13
      refine (CP.out _ rfl).mono ?_
      rintro e w4 ⟨vN, rfl, hN4, hb4⟩
      have hR4 := hR3.far hb4
      have hQ4 := hQ3.trans (below_onlyT hb4)
      have ho4 := ho3.far hb4
      obtain ⟨TN, cN, rfl⟩ := hN4.form
      by_cases hpc : pc = 0
      · subst hpc
        have hp1 := HP1.out rfl
        have hnn : (Value.slice TN pr.length cN) ≠ .slice none 0 0 := fun hh => by
          simp only [Value.slice.injEq] at hh; omega
        clear HP1
        go_wp2
        go_roundw
        case rel => exact ⟨k - 1, pr, by first | go_num | (congr 1; omega), by omega, hN4.mono hz3, hnn, hR4, hQ4⟩
        case measure => simp [intOf]; omega
      · have hpb : (pc == 0) = false := by simp [hpc]
        clear hpc HP1
        go_wp2
        go_roundw
        case rel => exact ⟨k - 1, l, by first | go_num | (congr 1; omega), by omega, ho4, hvn, hR4, hQ4⟩
        case measure => simp [intOf]; omega
    · have hk0 : k = 0 := by omega
      subst hk0
      go_wp2_with fail
      refine (r_below _ C len cap _ _ (by omega) hR).mono ?_
      rintro e w2 ⟨x, rfl, hx0, hx1, hR2, hO2⟩
      have ho2 := own_kept ho hO2 (fun k hk => by have := (World.ownsRow.lt ho k hk).1; simp; omega)
      have hQ2 := hQ.trans hO2
      have hz2 := hQ2.size
      by_cases h0 : x = 0
      · subst h0
        go_wp2_with fail
        refine (r_macT _ C len cap _ hR2).mono ?_
        rintro e w3 ⟨y, rfl, hR3, hO3⟩
        go_wp2_with fail
        refine (r_some _ C len cap _ hR3).mono ?_
        rintro e w4 ⟨z, rfl, hR4, hO4⟩
        have hO := hO3.trans hO4
        have ho4 := own_kept ho2 hO (fun k hk => by have := (World.ownsRow.lt ho k hk).1; simp; omega)
        have hQ4 := hQ2.trans hO
        have hz4 := hQ4.size
        go_wp2_with (at_builtin; refine wpList_append_recs Try.infExact rfl _ _ rfl w.heap.size _ _ _ rfl (ho4.alloc _) _ 1 1 [y, z] rfl (by simp) (by simp) (ints_new w4 52 [y, z]) (by omega) (by simp; omega) ?_; intro v' w9 ho9 hb9)
        have hb6 : Below w.heap.size w4 w9 := ((Below.refl w.heap.size w4).alloc hz4 _).trans hb9
        have hl9 : (l ++ [(⟨y, z⟩ : ExV)]).length = l.length + 1 := by simp
        have hnn : v' ≠ .slice none 0 0 := fun hh => by
          rcases ho9.shape with ⟨_, hn, _⟩ | ⟨g, cc, hv, _⟩
          · omega
          · rw [hh] at hv; simp at hv
        go_ret
        exact ⟨v', l ++ [⟨y, z⟩], rfl, by rw [exF_app, List.length_append]; exact ho9, by rw [hl9]; omega, hnn, hR4.kept (hb6.mono (by omega)), only_far hQ4 hb6⟩
      · have h0b : (x == 0) = false := by simp [h0]
        by_cases h1 : x = 1
        · subst h1
          clear h0
          go_wp2
          go_loopw [3, 7] (fun v i wr => ∃ (j : Nat) (l : List ExV), i = .int .i64 (j : Int) ∧ j ≤ 34 ∧ l.length ≤ 5 + j ∧ ownR wr w.heap.size 52 2 v l.length (exF l) ∧ v ≠ .slice none 0 0 ∧ RdI wr b C len cap ∧ Only b w wr) (fun _ i _ => (34 - intOf i).toNat)
          case atStart => exact ⟨0, l, rfl, by omega, by omega, ho2, hvn, hR2, hQ2⟩
          case round =>
            clear hvn hR2 hQ2 ho2 hO2 ho hR hQ
            obtain ⟨j, l, rfl, hj, hlj, ho, hvn, hR, hQ⟩ := hrel
            obtain ⟨T, c, rfl⟩ := ho.form
            have hsz := hQ.size
            by_cases hjl : j < 34
            · have hj1 : (j : Int) < 34 := by omega
              go_wp2_with fail
              refine (r_below _ C len cap _ _ (by omega) hR).mono ?_
              rintro e w3 ⟨y, rfl, hy0, hy1, hR3, hO3⟩
              have ho3 := own_kept ho hO3 (fun k hk => by have := (World.ownsRow.lt ho k hk).1; simp; omega)
              have hQ3 := hQ.trans hO3
              have hz3 := hQ3.size
              by_cases hll : (l.length : Int) < 31 + y
              · go_wp2_with (at_builtin; refine wpList_append_recs Try.infExact rfl _ _ rfl w.heap.size _ _ _ rfl (ho3.alloc _) _ 1 1 [141836999983104 + (j : Int), 1] rfl (by simp) (by simp) (ints_new w3 52 [141836999983104 + (j : Int), 1]) (by omega) (by simp; omega) ?_; intro v' w9 ho9 hb9)
                have hb6 : Below w.heap.size w3 w9 := ((Below.refl w.heap.size w3).alloc hz3 _).trans hb9
                have hl9 : (l ++ [(⟨141836999983104 + (j : Int), 1⟩ : ExV)]).length = l.length + 1 := by simp
                have hnn : v' ≠ .slice none 0 0 := fun hh => by
                  rcases ho9.shape with ⟨_, hn, _⟩ | ⟨g, cc, hv, _⟩
                  · omega
                  · rw [hh] at hv; simp at hv
                go_roundw
                case rel => exact ⟨j + 1, l ++ [⟨141836999983104 + (j : Int), 1⟩], by go_num, by omega, by rw [hl9]; omega, by rw [exF_app, List.length_append]; exact ho9, hnn, hR3.kept (hb6.mono (by omega)), only_far hQ3 hb6⟩
                case measure => simp [intOf]; omega
              · go_wp2
                go_ret
                exact ⟨_, l, rfl, ho3, by omega, hvn, hR3, hQ3⟩
            · have hj1 : ¬ (j : Int) < 34 := by omega
              go_wp2
              go_ret
              first | exact ⟨_, l, rfl, ho, by omega, hvn, hR, hQ⟩ | exact ⟨_, rfl, l, ho, by omega, hvn, hR, hQ⟩
        · have h1b : (x == 1) = false := by simp [h1]
          clear h0 h1
          go_wp2
          go_ret
          exact ⟨_, l, rfl, ho2, by omega, hvn, hR2, hQ2⟩
set_option maxRecDepth 100000 in
set_option maxHeartbeats 1600000 in
theorem d_ExactPut (B : Nat) (C : Option Addr) (len cap : Nat) (w : World) (h : Code w B C len) :
    Calls Try.prog 7 #[.slice C len cap] w fun e w' => ∃ (g c : Nat) (l : List ExV) (key act : Int), e = .returned (.tuple #[.slice (some ⟨g, 0, none⟩) l.length c, .int .i64 key, .int .i64 act]) ∧ ownR w' w.heap.size 52 2 (.slice (some ⟨g, 0, none⟩) l.length c) l.length (exF l) ∧ l.length ≤ 50 ∧ l.length ≤ c ∧ Below w.heap.size w w' := by
  go_enter Try.func7, Try.ntmps7
  go_wp2_with fail
  refine (r_Open B C len cap _ h).mono ?_
  rintro e w1 ⟨rfl, hR1, hb1, hs1⟩
  go_wp2_with fail
  refine (r_exacts _ C len cap _ hR1).mono ?_
  rintro e w2 ⟨v, l, rfl, ho, hl, hvn, hR2, hO2⟩
  rcases ho.shape with ⟨hv, _, _⟩ | ⟨g, c, rfl, _, _, hc, _⟩
  · exact absurd hv hvn
  go_wp2_with fail
  refine (r_macT _ C len cap _ hR2).mono ?_
  rintro e w3 ⟨k, rfl, hR3, hO3⟩
  go_wp2_with fail
  refine (r_once _ C len cap _ _ (by omega) (by omega) hR3).mono ?_
  rintro e w4 ⟨t, rfl, hR4, hO4⟩
  cases t
  · go_wp2_with fail
    refine (r_some _ C len cap _ hR4).mono ?_
    rintro e w5 ⟨z, rfl, hR5, hO5⟩
    have hO := (hO3.trans hO4).trans hO5
    have ho5 := own_kept ho hO (fun k hk => by have := (World.ownsRow.lt ho k hk).1; simp; omega)
    go_wp2
    go_ret3
    exact ⟨g, c, l, k, z, rfl, ho5.mono (by omega), hl, hc, hb1.trans ((hO2.trans hO).below (Nat.le_refl _) hb1.size)⟩
  · go_wp2_with fail
    refine (r_off _ C len cap _ _ _ (by omega) (by omega) (by omega) (by omega) hR4).mono ?_
    rintro e w5 ⟨k2, rfl, _, _, hR5, hO5⟩
    go_wp2_with fail
    refine (r_some _ C len cap _ hR5).mono ?_
    rintro e w6 ⟨z, rfl, hR6, hO6⟩
    have hO := ((hO3.trans hO4).trans hO5).trans hO6
    have ho6 := own_kept ho hO (fun k hk => by have := (World.ownsRow.lt ho k hk).1; simp; omega)
    go_wp2
    go_ret3
    exact ⟨g, c, l, k2, z, rfl, ho6.mono (by omega), hl, hc, hb1.trans ((hO2.trans hO).below (Nat.le_refl _) hb1.size)⟩
end Go.Proofs.Ytnlignfmicincaa
