/-
  Tables by masks, drawn, plainly; tables held against tables (no finds).
-/
import Derived.Test.YtnlignfmicincaaDtabTern
import Derived.Test.YtnlignfmicincaaTabs1
import Derived.Laws.StructEq
import Derived.Deep.QuietTactic
namespace Go.Proofs.Ytnlignfmicincaa
open Go.RowKit Go.PlainAid
set_option maxRecDepth 100000 in
set_option maxHeartbeats 3200000 in
theorem d_TernPut (B : Nat) (C : Option Addr) (len cap : Nat) (w : World) (h : Code w B C len) :
    Calls Try.prog 18 #[.slice C len cap] w fun e w' => ∃ (g c : Nat) (l : List TnV) (x0 x1 x2 x3 : Int), e = .returned (.tuple #[.slice (some ⟨g, 0, none⟩) l.length c, .int .i64 x0, .int .i64 x1, .int .i64 x2, .int .i64 x3]) ∧ ownR w' w.heap.size 75 4 (.slice (some ⟨g, 0, none⟩) l.length c) l.length (tnF l) ∧ l.length ≤ 50 ∧ l.length ≤ c ∧ Below w.heap.size w w' := by
  go_enter Try.func18, Try.ntmps18
  go_wp2_with fail
  refine (r_Open B C len cap _ h).mono ?_
  rintro e w1 ⟨rfl, hR1, hb1, hs1⟩
  go_wp2_with fail
  refine (r_terns _ C len cap _ hR1).mono ?_
  rintro e w2 ⟨v, l, rfl, ho, hl, hvn, hR2, hO2⟩
  rcases ho.shape with ⟨hv, _, _⟩ | ⟨g, c, rfl, _, _, hc, _⟩
  · exact absurd hv hvn
  go_wp2_with fail
  refine (r_tern _ C len cap _ hR2).mono ?_
  rintro e w3 ⟨x0, x1, x2, x3, rfl, hR3, hO3⟩
  go_wp2_with fail
  refine (r_below _ C len cap _ _ (by omega) hR3).mono ?_
  rintro e w4 ⟨y, rfl, hy0, hy1, hR4, hO4⟩
  have hO34 := hO3.trans hO4
  by_cases h0 : y = 0
  · subst h0
    go_wp2_with fail
    refine (r_off _ C len cap _ _ _ (by omega) (by omega) (by omega) (by omega) hR4).mono ?_
    rintro e w5 ⟨z, rfl, _, _, hR5, hO5⟩
    have hO := hO34.trans hO5
    have ho5 := own_kept ho hO (fun k hk => by have := (World.ownsRow.lt ho k hk).1; simp; omega)
    go_wp2
    refine bodyPost_ret (v := .tuple #[.slice (some ⟨g, 0, none⟩) l.length c, .int .i64 z, .int .i64 x1, .int .i64 x2, .int .i64 x3]) ?_ rfl ⟨g, c, l, z, x1, x2, x3, rfl, ho5.mono (by omega), hl, hc, hb1.trans ((hO2.trans hO).below (Nat.le_refl _) hb1.size)⟩
    simp [results, Try.results18]
  · have h0b : (y == 0) = false := by simp [h0]
    by_cases h1 : y = 1
    · subst h1
      go_wp2_with fail
      refine (r_off _ C len cap _ _ _ (by omega) (by omega) (by omega) (by omega) hR4).mono ?_
      rintro e w5 ⟨z, rfl, _, _, hR5, hO5⟩
      have hO := hO34.trans hO5
      have ho5 := own_kept ho hO (fun k hk => by have := (World.ownsRow.lt ho k hk).1; simp; omega)
      go_wp2
      refine bodyPost_ret (v := .tuple #[.slice (some ⟨g, 0, none⟩) l.length c, .int .i64 x0, .int .i64 z, .int .i64 x2, .int .i64 x3]) ?_ rfl ⟨g, c, l, x0, z, x2, x3, rfl, ho5.mono (by omega), hl, hc, hb1.trans ((hO2.trans hO).below (Nat.le_refl _) hb1.size)⟩
      simp [results, Try.results18]
    · have h1b : (y == 1) = false := by simp [h1]
      by_cases h2 : y = 2
      · subst h2
        go_wp2_with fail
        refine (r_off _ C len cap _ _ _ (by omega) (by omega) (by omega) (by omega) hR4).mono ?_
        rintro e w5 ⟨z, rfl, _, _, hR5, hO5⟩
        have hO := hO34.trans hO5
        have ho5 := own_kept ho hO (fun k hk => by have := (World.ownsRow.lt ho k hk).1; simp; omega)
        go_wp2
        refine bodyPost_ret (v := .tuple #[.slice (some ⟨g, 0, none⟩) l.length c, .int .i64 x0, .int .i64 x1, .int .i64 z, .int .i64 x3]) ?_ rfl ⟨g, c, l, x0, x1, z, x3, rfl, ho5.mono (by omega), hl, hc, hb1.trans ((hO2.trans hO).below (Nat.le_refl _) hb1.size)⟩
        simp [results, Try.results18]
      · have h2b : (y == 2) = false := by simp [h2]
        by_cases h3 : y = 3
        · subst h3
          go_wp2_with fail
          refine (r_some _ C len cap _ hR4).mono ?_
          rintro e w5 ⟨z, rfl, hR5, hO5⟩
          have hO := hO34.trans hO5
          have ho5 := own_kept ho hO (fun k hk => by have := (World.ownsRow.lt ho k hk).1; simp; omega)
          go_wp2
          refine bodyPost_ret (v := .tuple #[.slice (some ⟨g, 0, none⟩) l.length c, .int .i64 x0, .int .i64 x1, .int .i64 x2, .int .i64 z]) ?_ rfl ⟨g, c, l, x0, x1, x2, z, rfl, ho5.mono (by omega), hl, hc, hb1.trans ((hO2.trans hO).below (Nat.le_refl _) hb1.size)⟩
          simp [results, Try.results18]
        · have h3b : (y == 3) = false := by simp [h3]
          clear h0 h1 h2 h3
          have ho4 := own_kept ho hO34 (fun k hk => by have := (World.ownsRow.lt ho k hk).1; simp; omega)
          go_wp2
          refine bodyPost_ret (v := .tuple #[.slice (some ⟨g, 0, none⟩) l.length c, .int .i64 x0, .int .i64 x1, .int .i64 x2, .int .i64 x3]) ?_ rfl ⟨g, c, l, x0, x1, x2, x3, rfl, ho4.mono (by omega), hl, hc, hb1.trans ((hO2.trans hO34).below (Nat.le_refl _) hb1.size)⟩
          simp [results, Try.results18]
theorem tnTab_iff (l : List TnV) : tnTab l = true ↔ l.length ≤ 32 ∧ (∀ a ∈ l, tnOk a = true) ∧ l.Pairwise (fun a b => tnLt a b = true) := tb_iff tnOrd l ⟨0, 0, 0, 0⟩
theorem tnput_ok {l : List TnV} {a0 a1 a2 a3 : Int} (h : tnLC l a0 a1 a2 a3 = 0) : tnTab l = true ∧ keyB a0 = true ∧ keyB a1 = true ∧ tnLR l a0 a1 a2 a3 = putL tnLt ⟨0, 0, 0, 0⟩ l ⟨land a0 a1, a1, a2, a3⟩ ∧ tnTab (putL tnLt ⟨0, 0, 0, 0⟩ l ⟨land a0 a1, a1, a2, a3⟩) = true := by
  have e := tnLR_yes l a0 a1 a2 a3 h
  have h2 := h
  rw [tnLC_eq] at h2
  cases ht : tnTab l
  · rw [ht] at h2; simp at h2
  cases hk0 : keyB a0
  · rw [hk0] at h2; simp at h2
  cases hk1 : keyB a1
  · rw [hk1] at h2; simp at h2
  cases hp : inB a2 0 1000
  · rw [hp] at h2; simp at h2
  cases hc : actB a3
  · rw [hc] at h2; simp at h2
  refine ⟨rfl, rfl, rfl, e, ?_⟩
  rw [ht, hk0, hk1, hp, hc] at h2
  have hok : tnOk ⟨land a0 a1, a1, a2, a3⟩ = true := by
    obtain ⟨q1, q2⟩ := land_key hk0 hk1
    rw [tnOk_iff]
    simp only [q1, hk1, q2, hp, hc, decide_true, Bool.and_self]
  obtain ⟨t1, t2, t3⟩ := (tnTab_iff l).1 ht
  obtain ⟨q2, q3⟩ := tb_put (ok := tnOk) tnOrd ⟨0, 0, 0, 0⟩ l ⟨land a0 a1, a1, a2, a3⟩ hok t2 t3
  refine (tnTab_iff _).2 ⟨?_, q2, q3⟩
  rw [putL_length]
  cases hth : there tnLt (⟨0, 0, 0, 0⟩ : TnV) l ⟨land a0 a1, a1, a2, a3⟩ with
  | true => simp; exact t1
  | false =>
    have hth2 : there tnLt (⟨0, 0, 0, 0⟩ : TnV) l ⟨bits .and .i64 a0 a1, a1, a2, a3⟩ = false := hth
    rw [hth2] at h2
    simp at h2
    simp; omega
theorem neTern (a b c d : Int) (w : World) : (binOp .neq 75 (.agg #[.int .i64 a, .int .i64 b, .int .i64 c, .int .i64 d]) (.agg #[.int .i64 a, .int .i64 b, .int .i64 c, .int .i64 d])).run Try.prog w = .ok (.bool false) w := by
  have u3 := Try.underlying2
  have a3 := Try.isAgg2
  have z3 := Try.sizeOf2
  have hS : Try.prog.underlying 75 = some (.struct (Try.prog.fieldsOf 75)) := by kernel_rfl
  have hp : Try.prog.stoodInHeld 75 = false := by kernel_rfl
  rw [run_neq_struct w, show (10000 : Nat) = 9999 + 1 from rfl, run_equalIn_agg w 9999 75 _ _ hS hp]
  simp only [Program.fieldsOf, Try.underlying75]
  go_simp
set_option maxRecDepth 100000 in
set_option maxHeartbeats 1600000 in
theorem l_sameTerns (T U : Option Addr) (c e : Nat) (l : List TnV) (w : World) (h : IntsAt w T (tnF l)) (k : IntsAt w U (tnF l)) (hl : l.length ≤ 1099511627776) :
    Calls Try.prog 21 #[.slice T l.length c, .slice U l.length e] w fun e w' => e = .returned (.bool true) ∧ Below w.heap.size w w' := by
  have hnn : ((l.length : Int) != (l.length : Int)) = false := by simp
  go_enter Try.func21, Try.ntmps21
  go_wp2
  go_loopw [5] (fun i wr => ∃ j : Nat, j ≤ l.length ∧ i = .int .i64 (j : Int) ∧ Below w.heap.size w wr) (fun i _ => ((l.length : Int) - intOf i).toNat)
  case atStart => exact ⟨0, by omega, rfl, Below.refl _ _⟩
  case round =>
    obtain ⟨j, hj, rfl, hb⟩ := hrel
    by_cases hlt : j < l.length
    · rcases h.below hb with h | ⟨g, off, rfl, hg, hc⟩
      · have := tnF_len l; rw [h] at this; simp at this; omega
      · rcases k.below hb with k | ⟨g2, off2, rfl, hg2, hc2⟩
        · have := tnF_len l; rw [k] at this; simp at this; omega
        · have hj1 : (j : Int) < (l.length : Int) := by omega
          have hcs := tn_cells hc j hlt
          have hcs2 := tn_cells hc2 j hlt
          clear hc hc2
          generalize tnA l j = b at *
          obtain ⟨x, y, z, u⟩ := b
          have hq := neTern x y z u
          go_wp2_with fail
          go_quiet (fail)
          go_wp2
          go_roundw
          case rel => exact ⟨j + 1, by omega, by go_num, hb.trans ⟨rfl, rfl, rfl, Nat.le_refl _, fun _ _ => rfl⟩⟩
          case measure => simp [intOf]; omega
    · go_wp2
      go_ret
      exact ⟨rfl, hb⟩
end Go.Proofs.Ytnlignfmicincaa
