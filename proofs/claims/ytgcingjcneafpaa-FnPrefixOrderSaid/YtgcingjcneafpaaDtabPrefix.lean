/-
  Draws of tables by the first bits of an address.
-/
import Derived.Test.YtgcingjcneafpaaDtab0
import Derived.Test.YtgcingjcneafpaaTabQPrefix
namespace Go.Proofs.Ytgcingjcneafpaa
open Go.RowKit Go.PlainAid
theorem pfPut_pos (l : List PfV) (a0 a1 a2 : Int) (h : pfLC l a0 a1 a2 = 0) : 1 ≤ (pfLR l a0 a1 a2).length := by
  rw [pfLR_yes l _ _ _ h, putL_length]
  cases ht : there pfLt (⟨0, 0, 0⟩ : PfV) l ⟨top a0 a1, a1, a2⟩ with
  | false => simp
  | true => have := (there_iff _ l _).1 ht; simp; omega
set_option maxRecDepth 100000 in
set_option maxHeartbeats 3200000 in
theorem r_bits (b : Nat) (C : Option Addr) (len cap : Nat) (w : World) (h : RdI w b C len cap) :
    Calls Try.prog 40 #[.pointer (some ⟨b, 0, none⟩)] w fun e w' => ∃ x : Int, e = .returned (.int .i64 x) ∧ RdI w' b C len cap ∧ Only b w w' := by
  have hlt := h.lt
  go_enter Try.func40, Try.ntmps40
  go_wp2_with fail
  refine (r_below b C len cap _ _ (by omega) (h.alloc _)).mono ?_
  rintro e w2 ⟨y, rfl, hy0, hy1, hR2, hO2⟩
  have hQ2 := (Only.refl b w).alloc _ |>.trans hO2
  have hc := fun j => OnlyC hO2 (g := w.heap.size) (j := j) (by simp) (by omega)
  have k0 := hc 0
  have k1 := hc 1
  have k2 := hc 2
  have k3 := hc 3
  have k4 := hc 4
  have k5 := hc 5
  have k6 := hc 6
  have k7 := hc 7
  have k8 := hc 8
  have k9 := hc 9
  simp at k0 k1 k2 k3 k4 k5 k6 k7 k8 k9
  clear hc
  have hy : y = 0 ∨ y = 1 ∨ y = 2 ∨ y = 3 ∨ y = 4 ∨ y = 5 ∨ y = 6 ∨ y = 7 ∨ y = 8 ∨ y = 9 := by omega
  clear hy0 hy1
  rcases hy with rfl | rfl | rfl | rfl | rfl | rfl | rfl | rfl | rfl | rfl
  all_goals
    go_wp2
    go_ret
    exact ⟨_, rfl, hR2, hQ2⟩
set_option maxRecDepth 100000 in
set_option maxHeartbeats 6400000 in
theorem r_prefixes (b : Nat) (C : Option Addr) (len cap : Nat) (w : World) (h : RdI w b C len cap) :
    Calls Try.prog 35 #[.pointer (some ⟨b, 0, none⟩)] w fun e w' => ∃ (v : Value) (l : List PfV), e = .returned v ∧ ownR w' w.heap.size 70 3 v l.length (pfF l) ∧ l.length ≤ 50 ∧ v ≠ .slice none 0 0 ∧ RdI w' b C len cap ∧ Only b w w' := by
  have hbw := h.lt
  have hO0 : ownR (w.alloc (.cells #[] 70)) w.heap.size 70 3 (.slice (some ⟨w.heap.size, 0, none⟩) 0 0) 0 [] := World.ownsRow_made w #[] 0 (Nat.le_refl _) (by decide) rfl
  have hB0 : Below w.heap.size w (w.alloc (.cells #[] 70)) := (Below.refl _ w).alloc (Nat.le_refl _) _
  have hR0 := h.alloc (.cells #[] 70)
  go_enter Try.func35, Try.ntmps35
  go_wp2_with fail
  generalize hW : w.alloc _ = w0 at *
  clear hW
  refine (r_below _ C len cap _ _ (by omega) hR0).mono ?_
  rintro e w1 ⟨x, rfl, hx0, hx1, hR1, hO1⟩
  obtain ⟨N, rfl⟩ := Int.eq_ofNat_of_zero_le hx0
  have hN : N ≤ 6 := by omega
  have ho1 := own_kept hO0 hO1 (fun k hk => by have := (World.ownsRow.lt hO0 k hk).1; simp; omega)
  have hQ1 : Only b w w1 := (below_onlyT hB0).trans hO1
  go_wp2
  go_loopw [3, 4] (fun v i wr => ∃ (k : Nat) (l : List PfV), i = .int .i64 (k : Int) ∧ l.length + k ≤ N ∧ ownR wr w.heap.size 70 3 v l.length (pfF l) ∧ v ≠ .slice none 0 0 ∧ RdI wr b C len cap ∧ Only b w wr) (fun _ i _ => (intOf i).toNat)
  case atStart => exact ⟨N, [], rfl, by simp, ho1, by simp, hR1, hQ1⟩
  case round =>
    obtain ⟨k, l, rfl, hk, ho, hvn, hR, hQ⟩ := hrel
    obtain ⟨T, c, rfl⟩ := ho.form
    have hsz := hQ.size
    by_cases hlt : 0 < k
    · go_wp2_with fail
      refine (r_addrT _ C len cap _ hR).mono ?_
      rintro e wa ⟨x0, rfl, _, _, hRa, hOa⟩
      go_wp2_with fail
      refine (r_bits _ C len cap _ hRa).mono ?_
      rintro e wb ⟨x1, rfl, hRb, hOb⟩
      go_wp2_with fail
      refine (r_below _ C len cap _ _ (by omega) hRb).mono ?_
      rintro e w3 ⟨x2, rfl, hq0, hq1, hR3, hOc⟩
      have hO := (hOa.trans hOb).trans hOc
      have ho3 := own_kept ho hO (fun k hk => by have := (World.ownsRow.lt ho k hk).1; simp; omega)
      have hQ3 := hQ.trans hO
      have hz3 := hQ3.size
      have CP : Hid (∀ u : World, u = w3 → Calls Try.prog 16 #[.slice T l.length c, .int .i64 x0, .int .i64 x1, .int .i64 (1 + x2)] u fun e w' => ∃ v, e = .returned (.tuple #[v, .int .i64 (pfLC l x0 x1 (1 + x2))]) ∧ ownR w' u.heap.size 70 3 v (pfLR l x0 x1 (1 + x2)).length (pfF (pfLR l x0 x1 (1 + x2))) ∧ Below u.heap.size u w') := by
        rintro u rfl; exact s_PrefixPut T c l x0 x1 (1 + x2) u ho3.reads.2 (by omega)
      have hpl := pfPut_len l x0 x1 (1 + x2)
      have HP1 : Hid (pfLC l x0 x1 (1 + x2) = 0 → 1 ≤ (pfLR l x0 x1 (1 + x2)).length) := fun h => pfPut_pos l _ _ _ h
      generalize pfLC l x0 x1 (1 + x2) = pc at *
      generalize pfLR l x0 x1 (1 + x2) = pr at *
      go_wp2_with fail
      go_at_call 16
      refine (CP.out _ rfl).mono ?_
      rintro e w4 ⟨vN, rfl, hN4, hb4⟩
      have hR4 := hR3.far hb4
      have hQ4 := hQ3.trans (below_onlyT hb4)
      have ho4 := ho3.far hb4
      obtain ⟨TN, cN, rfl⟩ := hN4.form
      by_cases hpc : pc = 0
      · subst hpc
        have hp1 := HP1.out rfl
        have hnn : (Value.slice TN pr.length cN) ≠ .slice none 0 0 := fun hh => by
          simp only [Value.slice.injEq] at hh; omega
        clear HP1
        go_wp2
        go_roundw
        case rel => exact ⟨k - 1, pr, by first | go_num | (congr 1; omega), by omega, hN4.mono hz3, hnn, hR4, hQ4⟩
        case measure => simp [intOf]; omega
      · have hpb : (pc == 0) = false := by simp [hpc]
        clear hpc HP1
        go_wp2
        go_roundw
        case rel => exact ⟨k - 1, l, by first | go_num | (congr 1; omega), by omega, ho4, hvn, hR4, hQ4⟩
        case measure => simp [intOf]; omega
    · have hk0 : k = 0 := by omega
      subst hk0
      go_wp2_with fail
      refine (r_below _ C len cap _ _ (by omega) hR).mono ?_
      rintro e w2 ⟨x, rfl, hx0, hx1, hR2, hO2⟩
      have ho2 := own_kept ho hO2 (fun k hk => by have := (World.ownsRow.lt ho k hk).1; simp; omega)
      have hQ2 := hQ.trans hO2
      have hz2 := hQ2.size
      by_cases h0 : x = 0
      · subst h0
        go_wp2_with fail
        refine (r_addrT _ C len cap _ hR2).mono ?_
        rintro e wa ⟨y, rfl, _, _, hRa, hOa⟩
        go_wp2_with fail
        refine (r_bits _ C len cap _ hRa).mono ?_
        rintro e w3 ⟨yb, rfl, hR3, hOb⟩
        have hO3 := hOa.trans hOb
        go_wp2_with fail
        refine (r_some _ C len cap _ hR3).mono ?_
        rintro e w4 ⟨z, rfl, hR4, hO4⟩
        have hO := hO3.trans hO4
        have ho4 := own_kept ho2 hO (fun k hk => by have := (World.ownsRow.lt ho k hk).1; simp; omega)
        have hQ4 := hQ2.trans hO
        have hz4 := hQ4.size
        go_wp2_with (at_builtin; refine wpList_append_recs Try.infPrefix rfl _ _ rfl w.heap.size _ _ _ rfl (ho4.alloc _) _ 1 1 [y, yb, z] rfl (by simp) (by simp) (ints_new w4 70 [y, yb, z]) (by omega) (by simp; omega) ?_; intro v' w9 ho9 hb9)
        have hb6 : Below w.heap.size w4 w9 := ((Below.refl w.heap.size w4).alloc hz4 _).trans hb9
        have hl9 : (l ++ [(⟨y, yb, z⟩ : PfV)]).length = l.length + 1 := by simp
        have hnn : v' ≠ .slice none 0 0 := fun hh => by
          rcases ho9.shape with ⟨_, hn, _⟩ | ⟨g, cc, hv, _⟩
          · omega
          · rw [hh] at hv; simp at hv
        go_ret
        exact ⟨v', l ++ [⟨y, yb, z⟩], rfl, by rw [pfF_app, List.length_append]; exact ho9, by rw [hl9]; omega, hnn, hR4.kept (hb6.mono (by omega)), only_far hQ4 hb6⟩
      · have h0b : (x == 0) = false := by simp [h0]
        by_cases h1 : x = 1
        · subst h1
          clear h0
          have hoN : ownR (w2.alloc (.cells #[] 70)) w.heap.size 70 3 (.slice (some ⟨w2.heap.size, 0, none⟩) 0 0) 0 [] := World.ownsRow_made w2 #[] 0 hz2 (by decide) rfl
          have hRN := hR2.alloc (.cells #[] 70)
          have hQN := hQ2.trans (below_onlyT ((Below.refl _ w2).alloc (Nat.le_refl _) (.cells #[] 70)))
          go_wp2
          generalize hWW : w2.alloc _ = w8 at *
          clear hWW
          go_loopw [3, 7] (fun v i wr => ∃ (j : Nat) (l : List PfV), i = .int .i64 (j : Int) ∧ j ≤ 34 ∧ l.length ≤ 6 + j ∧ ownR wr w.heap.size 70 3 v l.length (pfF l) ∧ v ≠ .slice none 0 0 ∧ RdI wr b C len cap ∧ Only b w wr) (fun _ i _ => (34 - intOf i).toNat)
          case atStart => exact ⟨0, [], rfl, by omega, by simp, hoN, by simp, hRN, hQN⟩
          case round =>
            clear hvn hR2 hQ2 ho2 hO2 ho hR hQ hoN hRN hQN
            obtain ⟨j, l, rfl, hj, hlj, ho, hvn, hR, hQ⟩ := hrel
            obtain ⟨T, c, rfl⟩ := ho.form
            have hsz := hQ.size
            by_cases hjl : j < 34
            · have hj1 : (j : Int) < 34 := by omega
              have hsh : wrap64 ((j : Int) * 256) = (j : Int) * 256 := by unfold wrap64; omega
              go_wp2_with fail
              refine (r_below _ C len cap _ _ (by omega) hR).mono ?_
              rintro e w3 ⟨y, rfl, hy0, hy1, hR3, hO3⟩
              have ho3 := own_kept ho hO3 (fun k hk => by have := (World.ownsRow.lt ho k hk).1; simp; omega)
              have hQ3 := hQ.trans hO3
              have hz3 := hQ3.size
              by_cases hll : (l.length : Int) < 31 + y
              · go_wp2_with (at_builtin; refine wpList_append_recs Try.infPrefix rfl _ _ rfl w.heap.size _ _ _ rfl (ho3.alloc _) _ 1 1 [(j : Int) * 256, 24, 1] rfl (by simp) (by simp) (ints_new w3 70 [(j : Int) * 256, 24, 1]) (by omega) (by simp; omega) ?_; intro v' w9 ho9 hb9)
                have hb6 : Below w.heap.size w3 w9 := ((Below.refl w.heap.size w3).alloc hz3 _).trans hb9
                have hl9 : (l ++ [(⟨(j : Int) * 256, 24, 1⟩ : PfV)]).length = l.length + 1 := by simp
                have hnn : v' ≠ .slice none 0 0 := fun hh => by
                  rcases ho9.shape with ⟨_, hn, _⟩ | ⟨g, cc, hv, _⟩
                  · omega
                  · rw [hh] at hv; simp at hv
                go_roundw
                case rel => exact ⟨j + 1, l ++ [⟨(j : Int) * 256, 24, 1⟩], by go_num, by omega, by rw [hl9]; omega, by rw [pfF_app, List.length_append]; exact ho9, hnn, hR3.kept (hb6.mono (by omega)), only_far hQ3 hb6⟩
                case measure => simp [intOf]; omega
              · go_wp2
                go_ret
                exact ⟨_, l, rfl, ho3, by omega, hvn, hR3, hQ3⟩
            · have hj1 : ¬ (j : Int) < 34 := by omega
              go_wp2
              go_ret
              first | exact ⟨_, l, rfl, ho, by omega, hvn, hR, hQ⟩ | exact ⟨_, rfl, l, ho, by omega, hvn, hR, hQ⟩
        · have h1b : (x == 1) = false := by simp [h1]
          clear h0 h1
          go_wp2
          go_ret
          exact ⟨_, l, rfl, ho2, by omega, hvn, hR2, hQ2⟩
set_option maxRecDepth 100000 in
set_option maxHeartbeats 3200000 in
theorem d_PrefixPut (B : Nat) (C : Option Addr) (len cap : Nat) (w : World) (h : Code w B C len) :
    Calls Try.prog 14 #[.slice C len cap] w fun e w' => ∃ (g c : Nat) (l : List PfV) (x0 x1 x2 : Int), e = .returned (.tuple #[.slice (some ⟨g, 0, none⟩) l.length c, .int .i64 x0, .int .i64 x1, .int .i64 x2]) ∧ ownR w' w.heap.size 70 3 (.slice (some ⟨g, 0, none⟩) l.length c) l.length (pfF l) ∧ l.length ≤ 50 ∧ l.length ≤ c ∧ -9223372036854775808 ≤ x0 ∧ x0 ≤ 9223372036854775807 ∧ Below w.heap.size w w' := by
  go_enter Try.func14, Try.ntmps14
  go_wp2_with fail
  refine (r_Open B C len cap _ h).mono ?_
  rintro e w1 ⟨rfl, hR1, hb1, hs1⟩
  go_wp2_with fail
  refine (r_prefixes _ C len cap _ hR1).mono ?_
  rintro e w2 ⟨v, l, rfl, ho, hl, hvn, hR2, hO2⟩
  rcases ho.shape with ⟨hv, _, _⟩ | ⟨g, c, rfl, _, _, hc, _⟩
  · exact absurd hv hvn
  go_wp2_with fail
  refine (r_once _ C len cap _ _ (by omega) (by omega) hR2).mono ?_
  rintro e w3 ⟨t, rfl, hR3, hO3⟩
  cases t
  · go_wp2_with fail
    refine (r_addrT _ C len cap _ hR3).mono ?_
    rintro e w4 ⟨x0, rfl, hx0, hx1, hR4, hO4⟩
    go_wp2_with fail
    refine (r_bits _ C len cap _ hR4).mono ?_
    rintro e w5 ⟨x1, rfl, hR5, hO5⟩
    go_wp2_with fail
    refine (r_some _ C len cap _ hR5).mono ?_
    rintro e w6 ⟨x2, rfl, hR6, hO6⟩
    have hO := ((hO3.trans hO4).trans hO5).trans hO6
    have ho6 := own_kept ho hO (fun k hk => by have := (World.ownsRow.lt ho k hk).1; simp; omega)
    go_wp2
    refine bodyPost_ret (v := .tuple #[.slice (some ⟨g, 0, none⟩) l.length c, .int .i64 x0, .int .i64 x1, .int .i64 x2]) ?_ rfl ⟨g, c, l, x0, x1, x2, rfl, ho6.mono (by omega), hl, hc, by omega, by omega, hb1.trans ((hO2.trans hO).below (Nat.le_refl _) hb1.size)⟩
    simp [results, Try.results14]
  · go_wp2_with fail
    refine (r_off _ C len cap _ _ _ (by omega) (by omega) (by omega) (by omega) hR3).mono ?_
    rintro e w4 ⟨x0, rfl, hx0, hx1, hR4, hO4⟩
    go_wp2_with fail
    refine (r_off _ C len cap _ _ _ (by omega) (by omega) (by omega) (by omega) hR4).mono ?_
    rintro e w5 ⟨x1, rfl, _, _, hR5, hO5⟩
    go_wp2_with fail
    refine (r_some _ C len cap _ hR5).mono ?_
    rintro e w6 ⟨x2, rfl, hR6, hO6⟩
    have hO := ((hO3.trans hO4).trans hO5).trans hO6
    have ho6 := own_kept ho hO (fun k hk => by have := (World.ownsRow.lt ho k hk).1; simp; omega)
    go_wp2
    refine bodyPost_ret (v := .tuple #[.slice (some ⟨g, 0, none⟩) l.length c, .int .i64 x0, .int .i64 x1, .int .i64 x2]) ?_ rfl ⟨g, c, l, x0, x1, x2, rfl, ho6.mono (by omega), hl, hc, hx0, hx1, hb1.trans ((hO2.trans hO).below (Nat.le_refl _) hb1.size)⟩
    simp [results, Try.results14]
end Go.Proofs.Ytgcingjcneafpaa
