/-
  Draws of tables by masks.
-/
import Derived.Test.YtnlignfmicincaaDtab0
import Derived.Test.YtnlignfmicincaaTabQTern
namespace Go.Proofs.Ytnlignfmicincaa
open Go.RowKit Go.PlainAid
theorem tnPut_pos (l : List TnV) (a0 a1 a2 a3 : Int) (h : tnLC l a0 a1 a2 a3 = 0) : 1 ≤ (tnLR l a0 a1 a2 a3).length := by
  rw [tnLR_yes l _ _ _ _ h, putL_length]
  cases ht : there tnLt (⟨0, 0, 0, 0⟩ : TnV) l ⟨bits .and .i64 a0 a1, a1, a2, a3⟩ with
  | false => simp
  | true => have := (there_iff _ l _).1 ht; simp; omega
set_option maxRecDepth 100000 in
set_option maxHeartbeats 3200000 in
theorem r_tern (b : Nat) (C : Option Addr) (len cap : Nat) (w : World) (h : RdI w b C len cap) :
    Calls Try.prog 44 #[.pointer (some ⟨b, 0, none⟩)] w fun e w' => ∃ x0 x1 x2 x3 : Int, e = .returned (.tuple #[.int .i64 x0, .int .i64 x1, .int .i64 x2, .int .i64 x3]) ∧ RdI w' b C len cap ∧ Only b w w' := by
  have hlt := h.lt
  go_enter Try.func44, Try.ntmps44
  go_wp2_with fail
  refine (r_below b C len cap _ _ (by omega) (h.alloc _)).mono ?_
  rintro e w2 ⟨y, rfl, hy0, hy1, hR2, hO2⟩
  have hQ2 := (Only.refl b w).alloc _ |>.trans hO2
  have hc := fun j => OnlyC hO2 (g := w.heap.size) (j := j) (by simp) (by omega)
  have k0 := hc 0
  have k1 := hc 1
  have k2 := hc 2
  have k3 := hc 3
  have k4 := hc 4
  simp at k0 k1 k2 k3 k4
  clear hc
  have hy : y = 0 ∨ y = 1 ∨ y = 2 ∨ y = 3 ∨ y = 4 := by omega
  clear hy0 hy1
  rcases hy with rfl | rfl | rfl | rfl | rfl
  all_goals
    go_wp2_with fail
    refine (r_macT _ C len cap _ hR2).mono ?_
    rintro e w3 ⟨x, rfl, hR3, hO3⟩
    go_wp2_with fail
    refine (r_below _ C len cap _ _ (by omega) hR3).mono ?_
    rintro e w4 ⟨p, rfl, _, _, hR4, hO4⟩
    go_wp2_with fail
    refine (r_below _ C len cap _ _ (by omega) hR4).mono ?_
    rintro e w5 ⟨q, rfl, hq0, hq1, hR5, hO5⟩
    go_wp2
    first | (refine bodyPost_ret (v := .tuple #[.int .i64 x, .int .i64 0, .int .i64 p, .int .i64 (1 + q)]) ?_ rfl ⟨x, 0, p, 1 + q, rfl, hR5, ((hQ2.trans hO3).trans hO4).trans hO5⟩; simp [results, Try.results44]; done) | (refine bodyPost_ret (v := .tuple #[.int .i64 x, .int .i64 281474976710655, .int .i64 p, .int .i64 (1 + q)]) ?_ rfl ⟨x, 281474976710655, p, 1 + q, rfl, hR5, ((hQ2.trans hO3).trans hO4).trans hO5⟩; simp [results, Try.results44]; done) | (refine bodyPost_ret (v := .tuple #[.int .i64 x, .int .i64 281474976710400, .int .i64 p, .int .i64 (1 + q)]) ?_ rfl ⟨x, 281474976710400, p, 1 + q, rfl, hR5, ((hQ2.trans hO3).trans hO4).trans hO5⟩; simp [results, Try.results44]; done) | (refine bodyPost_ret (v := .tuple #[.int .i64 x, .int .i64 255, .int .i64 p, .int .i64 (1 + q)]) ?_ rfl ⟨x, 255, p, 1 + q, rfl, hR5, ((hQ2.trans hO3).trans hO4).trans hO5⟩; simp [results, Try.results44]; done) | (refine bodyPost_ret (v := .tuple #[.int .i64 x, .int .i64 7, .int .i64 p, .int .i64 (1 + q)]) ?_ rfl ⟨x, 7, p, 1 + q, rfl, hR5, ((hQ2.trans hO3).trans hO4).trans hO5⟩; simp [results, Try.results44]; done)
set_option maxRecDepth 100000 in
set_option maxHeartbeats 6400000 in
theorem r_terns (b : Nat) (C : Option Addr) (len cap : Nat) (w : World) (h : RdI w b C len cap) :
    Calls Try.prog 43 #[.pointer (some ⟨b, 0, none⟩)] w fun e w' => ∃ (v : Value) (l : List TnV), e = .returned v ∧ ownR w' w.heap.size 75 4 v l.length (tnF l) ∧ l.length ≤ 50 ∧ v ≠ .slice none 0 0 ∧ RdI w' b C len cap ∧ Only b w w' := by
  have hbw := h.lt
  have hO0 : ownR (w.alloc (.cells #[] 75)) w.heap.size 75 4 (.slice (some ⟨w.heap.size, 0, none⟩) 0 0) 0 [] := World.ownsRow_made w #[] 0 (Nat.le_refl _) (by decide) rfl
  have hB0 : Below w.heap.size w (w.alloc (.cells #[] 75)) := (Below.refl _ w).alloc (Nat.le_refl _) _
  have hR0 := h.alloc (.cells #[] 75)
  go_enter Try.func43, Try.ntmps43
  go_wp2_with fail
  generalize hW : w.alloc _ = w0 at *
  clear hW
  refine (r_below _ C len cap _ _ (by omega) hR0).mono ?_
  rintro e w1 ⟨x, rfl, hx0, hx1, hR1, hO1⟩
  obtain ⟨N, rfl⟩ := Int.eq_ofNat_of_zero_le hx0
  have hN : N ≤ 6 := by omega
  have ho1 := own_kept hO0 hO1 (fun k hk => by have := (World.ownsRow.lt hO0 k hk).1; simp; omega)
  have hQ1 : Only b w w1 := (below_onlyT hB0).trans hO1
  go_wp2
  go_loopw [3, 4] (fun v i wr => ∃ (k : Nat) (l : List TnV), i = .int .i64 (k : Int) ∧ l.length + k ≤ N ∧ ownR wr w.heap.size 75 4 v l.length (tnF l) ∧ v ≠ .slice none 0 0 ∧ RdI wr b C len cap ∧ Only b w wr) (fun _ i _ => (intOf i).toNat)
  case atStart => exact ⟨N, [], rfl, by simp, ho1, by simp, hR1, hQ1⟩
  case round =>
    obtain ⟨k, l, rfl, hk, ho, hvn, hR, hQ⟩ := hrel
    obtain ⟨T, c, rfl⟩ := ho.form
    have hsz := hQ.size
    by_cases hlt : 0 < k
    · go_wp2_with fail
      refine (r_tern _ C len cap _ hR).mono ?_
      rintro e w3 ⟨x0, x1, x2, x3, rfl, hR3, hO⟩
      have ho3 := own_kept ho hO (fun k hk => by have := (World.ownsRow.lt ho k hk).1; simp; omega)
      have hQ3 := hQ.trans hO
      have hz3 := hQ3.size
      have CP : Hid (∀ u : World, u = w3 → Calls Try.prog 20 #[.slice T l.length c, .int .i64 x0, .int .i64 x1, .int .i64 x2, .int .i64 x3] u fun e w' => ∃ v, e = .returned (.tuple #[v, .int .i64 (tnLC l x0 x1 x2 x3)]) ∧ ownR w' u.heap.size 75 4 v (tnLR l x0 x1 x2 x3).length (tnF (tnLR l x0 x1 x2 x3)) ∧ Below u.heap.size u w') := by
        rintro u rfl; exact s_TernPut T c l x0 x1 x2 x3 u ho3.reads.2 (by omega)
      have hpl := tnPut_len l x0 x1 x2 x3
      have HP1 : Hid (tnLC l x0 x1 x2 x3 = 0 → 1 ≤ (tnLR l x0 x1 x2 x3).length) := fun h => tnPut_pos l _ _ _ _ h
      generalize tnLC l x0 x1 x2 x3 = pc at *
      generalize tnLR l x0 x1 x2 x3 = pr at *
      go_wp2_with fail
      go_at_call 20
      refine (CP.out _ rfl).mono ?_
      rintro e w4 ⟨vN, rfl, hN4, hb4⟩
      have hR4 := hR3.far hb4
      have hQ4 := hQ3.trans (below_onlyT hb4)
      have ho4 := ho3.far hb4
      obtain ⟨TN, cN, rfl⟩ := hN4.form
      by_cases hpc : pc = 0
      · subst hpc
        have hp1 := HP1.out rfl
        have hnn : (Value.slice TN pr.length cN) ≠ .slice none 0 0 := fun hh => by
          simp only [Value.slice.injEq] at hh; omega
        clear HP1
        go_wp2
        go_roundw
        case rel => exact ⟨k - 1, pr, by first | go_num | (congr 1; omega), by omega, hN4.mono hz3, hnn, hR4, hQ4⟩
        case measure => simp [intOf]; omega
      · have hpb : (pc == 0) = false := by simp [hpc]
        clear hpc HP1
        go_wp2
        go_roundw
        case rel => exact ⟨k - 1, l, by first | go_num | (congr 1; omega), by omega, ho4, hvn, hR4, hQ4⟩
        case measure => simp [intOf]; omega
    · have hk0 : k = 0 := by omega
      subst hk0
      go_wp2_with fail
      refine (r_below _ C len cap _ _ (by omega) hR).mono ?_
      rintro e w2 ⟨x, rfl, hx0, hx1, hR2, hO2⟩
      have ho2 := own_kept ho hO2 (fun k hk => by have := (World.ownsRow.lt ho k hk).1; simp; omega)
      have hQ2 := hQ.trans hO2
      have hz2 := hQ2.size
      by_cases h0 : x = 0
      · subst h0
        go_wp2_with fail
        refine (r_macT _ C len cap _ hR2).mono ?_
        rintro e w3 ⟨y, rfl, hR3, hO3⟩
        go_wp2_with fail
        refine (r_some _ C len cap _ hR3).mono ?_
        rintro e w4 ⟨z, rfl, hR4, hO4⟩
        have hO := hO3.trans hO4
        have ho4 := own_kept ho2 hO (fun k hk => by have := (World.ownsRow.lt ho k hk).1; simp; omega)
        have hQ4 := hQ2.trans hO
        have hz4 := hQ4.size
        go_wp2_with (at_builtin; refine wpList_append_recs Try.infTern rfl _ _ rfl w.heap.size _ _ _ rfl (ho4.alloc _) _ 1 1 [y, 281474976710655, 0, z] rfl (by simp) (by simp) (ints_new w4 75 [y, 281474976710655, 0, z]) (by omega) (by simp; omega) ?_; intro v' w9 ho9 hb9)
        have hb6 : Below w.heap.size w4 w9 := ((Below.refl w.heap.size w4).alloc hz4 _).trans hb9
        have hl9 : (l ++ [(⟨y, 281474976710655, 0, z⟩ : TnV)]).length = l.length + 1 := by simp
        have hnn : v' ≠ .slice none 0 0 := fun hh => by
          rcases ho9.shape with ⟨_, hn, _⟩ | ⟨g, cc, hv, _⟩
          · omega
          · rw [hh] at hv; simp at hv
        go_ret
        exact ⟨v', l ++ [⟨y, 281474976710655, 0, z⟩], rfl, by rw [tnF_app, List.length_append]; exact ho9, by rw [hl9]; omega, hnn, hR4.kept (hb6.mono (by omega)), only_far hQ4 hb6⟩
      · have h0b : (x == 0) = false := by simp [h0]
        by_cases h1 : x = 1
        · subst h1
          clear h0
          have hoN : ownR (w2.alloc (.cells #[] 75)) w.heap.size 75 4 (.slice (some ⟨w2.heap.size, 0, none⟩) 0 0) 0 [] := World.ownsRow_made w2 #[] 0 hz2 (by decide) rfl
          have hRN := hR2.alloc (.cells #[] 75)
          have hQN := hQ2.trans (below_onlyT ((Below.refl _ w2).alloc (Nat.le_refl _) (.cells #[] 75)))
          go_wp2
          generalize hWW : w2.alloc _ = w8 at *
          clear hWW
          go_loopw [3, 11] (fun v i wr => ∃ (j : Nat) (l : List TnV), i = .int .i64 (j : Int) ∧ j ≤ 34 ∧ l.length ≤ 6 + j ∧ ownR wr w.heap.size 75 4 v l.length (tnF l) ∧ v ≠ .slice none 0 0 ∧ RdI wr b C len cap ∧ Only b w wr) (fun _ i _ => (34 - intOf i).toNat)
          case atStart => exact ⟨0, [], rfl, by omega, by simp, hoN, by simp, hRN, hQN⟩
          case round =>
            clear hvn hR2 hQ2 ho2 hO2 ho hR hQ hoN hRN hQN
            obtain ⟨j, l, rfl, hj, hlj, ho, hvn, hR, hQ⟩ := hrel
            obtain ⟨T, c, rfl⟩ := ho.form
            have hsz := hQ.size
            by_cases hjl : j < 34
            · have hj1 : (j : Int) < 34 := by omega
              go_wp2_with fail
              refine (r_below _ C len cap _ _ (by omega) hR).mono ?_
              rintro e w3 ⟨y, rfl, hy0, hy1, hR3, hO3⟩
              have ho3 := own_kept ho hO3 (fun k hk => by have := (World.ownsRow.lt ho k hk).1; simp; omega)
              have hQ3 := hQ.trans hO3
              have hz3 := hQ3.size
              by_cases hll : (l.length : Int) < 31 + y
              · go_wp2_with (at_builtin; refine wpList_append_recs Try.infTern rfl _ _ rfl w.heap.size _ _ _ rfl (ho3.alloc _) _ 1 1 [(j : Int), 255, 0, 1] rfl (by simp) (by simp) (ints_new w3 75 [(j : Int), 255, 0, 1]) (by omega) (by simp; omega) ?_; intro v' w9 ho9 hb9)
                have hb6 : Below w.heap.size w3 w9 := ((Below.refl w.heap.size w3).alloc hz3 _).trans hb9
                have hl9 : (l ++ [(⟨(j : Int), 255, 0, 1⟩ : TnV)]).length = l.length + 1 := by simp
                have hnn : v' ≠ .slice none 0 0 := fun hh => by
                  rcases ho9.shape with ⟨_, hn, _⟩ | ⟨g, cc, hv, _⟩
                  · omega
                  · rw [hh] at hv; simp at hv
                go_roundw
                case rel => exact ⟨j + 1, l ++ [⟨(j : Int), 255, 0, 1⟩], by go_num, by omega, by rw [hl9]; omega, by rw [tnF_app, List.length_append]; exact ho9, hnn, hR3.kept (hb6.mono (by omega)), only_far hQ3 hb6⟩
                case measure => simp [intOf]; omega
              · go_wp2
                go_ret
                exact ⟨_, l, rfl, ho3, by omega, hvn, hR3, hQ3⟩
            · have hj1 : ¬ (j : Int) < 34 := by omega
              go_wp2
              go_ret
              first | exact ⟨_, l, rfl, ho, by omega, hvn, hR, hQ⟩ | exact ⟨_, rfl, l, ho, by omega, hvn, hR, hQ⟩
        · have h1b : (x == 1) = false := by simp [h1]
          clear h0 h1
          go_wp2
          go_ret
          exact ⟨_, l, rfl, ho2, by omega, hvn, hR2, hQ2⟩
end Go.Proofs.Ytnlignfmicincaa
