/-
  The law on ends: its walk.
-/
import Derived.Test.YtnheppkjeoiipaaDen3
namespace Go.Proofs.Ytnheppkjeoiipaa
open Go.RowKit Go.PlainAid
theorem ownV.noneT {w : World} {B : Nat} {E : TypeId} {k n c : Nat} {T : Option Addr} {xs : List Value} (h : ownV w B E k (.slice T n c) n xs) : T = none → n = 0 ∧ c = 0 := by
  intro hT
  subst hT
  rcases h.shape with ⟨hv, h0, _⟩ | ⟨g, cap, hv, _⟩
  · simp at hv; exact ⟨h0, hv.2⟩
  · simp at hv
theorem ownV.drew {w : World} {B : Nat} {E : TypeId} {k n : Nat} {v : Value} {xs : List Value} (h : ownV w B E k v n xs) : ownV w.drew B E k v n xs := h
theorem Bx.drewE {w : World} {b : Nat} {vs : List Value} (h : Bx w b vs) : Bx w.drew b vs := h
def edS (e : EdV) : EdV := ⟨e.id, e.knd, e.rem, e.loc, e.net, e.df, e.sum, e.opts⟩
theorem edM_yes {e : EdV} (h : edOk e = true) : edM e = edS e := by unfold edM edS; rw [h]; rfl
theorem edM_no {e : EdV} (h : edOk e = false) : edM e = ⟨0, 0, 0, 0, 0, false, false, []⟩ := by unfold edM; rw [h]; rfl
theorem edOk_S (e : EdV) : edOk (edS e) = edOk e := by
  unfold edOk edS
  simp only
  cases actB e.id <;> cases inB e.knd 1 4 <;> cases addrB e.loc <;> cases addrB e.rem <;> simp
theorem edS_S (e : EdV) : edS (edS e) = e := rfl
set_option maxRecDepth 100000 in
set_option maxHeartbeats 12800000 in
theorem walk_FnEnds (a : Option Addr) (len cap : Nat) (zs : List Int) (w : World) (w0 : IsRow .u8 w a len cap zs) :
    Calls Try.prog 6 #[.slice a len cap] w fun e w' => e = .returned (.bool true) ∧ Below w.heap.size w w' := by
  have hl := row_len w0
  by_cases hz : 1048576 < len
  · go_enter Try.func6, Try.ntmps6
    go_wp2
    go_ret
    exact ⟨rfl, Below.refl _ _⟩
  · have hCo := code_of_row w0 (by omega)
    clear w0
    go_enter Try.func6, Try.ntmps6
    go_wp2_with fail
    refine (big_no _ _ _ _ (by omega)).mono ?_
    rintro e w' ⟨rfl, rfl⟩
    go_wp2_with fail
    refine (d_MirrorOf _ a len cap _ hCo).mono ?_
    rintro x w1 ⟨e, T, c, rfl, hv, hl4, ht, hB⟩
    have hT := hv.noneT
    have hn : e.opts.length + opTot e.opts ≤ 1048576 := by omega
    have CM : Hid (∀ (u : World), CellsAt u T (opF e.opts) → Calls Try.prog 18 #[.agg (edL e T c)] u fun x w' => ∃ T' c', x = .returned (.agg (edL (edM e) T' c')) ∧ ownV w' u.heap.size 33 3 (.slice T' (edM e).opts.length c') (edM e).opts.length (opF (edM e).opts) ∧ Below u.heap.size u w') := fun u h1 => i_MirrorOf e _ _ u h1 hT hn
    have CS : Hid (∀ (u : World), CellsAt u T (opF e.opts) → Calls Try.prog 16 #[.agg (edL e T c)] u fun x w' => ∃ T' c', x = .returned (.agg (edL (edM e) T' c')) ∧ ownV w' u.heap.size 33 3 (.slice T' (edM e).opts.length c') (edM e).opts.length (opF (edM e).opts) ∧ Below u.heap.size u w') := fun u h1 => s_MirrorOf e _ _ u h1 hT hn
    have CF : Hid (∀ (T1 T2 : Option Addr) (c1 c2 : Nat) (u : World), CellsAt u T1 (opF (edM e).opts) → CellsAt u T2 (opF (edM e).opts) → Calls Try.prog 23 #[.agg (edL (edM e) T1 c1), .agg (edL (edM e) T2 c2)] u fun x w' => x = .returned (.bool true) ∧ Below u.heap.size u w') := fun T1 T2 c1 c2 u h1 h2 => l_sameEnd (edM e) _ _ _ _ u h1 h2 (by have := edM_len e; omega)
    have CIe : Hid (∀ (u : World), CellsAt u T (opF e.opts) → Calls Try.prog 24 #[.agg (edL e T c)] u fun x w' => x = .returned (.bool (edOk e)) ∧ Below u.heap.size u w') := fun u h1 => i_EndOk e _ _ u h1 hn
    have CSe : Hid (∀ (u : World), CellsAt u T (opF e.opts) → Calls Try.prog 25 #[.agg (edL e T c)] u fun x w' => x = .returned (.bool (edOk e)) ∧ Below u.heap.size u w') := fun u h1 => s_EndOk e _ _ u h1 hn
    clear hl4 ht hl hz hCo
    cases hok : edOk e
    · rw [edM_no hok] at CM CS CF
      rw [hok] at CIe CSe
      clear hn hok hT
      obtain ⟨id, knd, loc, rem, net, df, sum, opts⟩ := e
      simp only [edL] at *
      have k1 : ∀ z : Int, (z == z) = true := fun z => by simp
      have hq := (Below.refl w1.heap.size w1).alloc (Nat.le_refl _) (.cells #[.int .i64 id, .int .i64 knd, .int .i64 loc, .int .i64 rem, .int .i64 net, .bool df, .bool sum, .slice T opts.length c] 39)
      have hX := Bx.new w1 #[.int .i64 id, .int .i64 knd, .int .i64 loc, .int .i64 rem, .int .i64 net, .bool df, .bool sum, .slice T opts.length c] 39
      replace hB := hB.trans (hq.mono hB.size)
      replace hv := hv.far hq
      clear hq
      go_wp2_with fail
      generalize hU : w1.alloc _ = u1 at *
      clear hU
      refine (CM.out _ hv.reads.2).mono ?_
      rintro x w2 ⟨TM, cM, rfl, hM, hb⟩
      replace hX := hX.below hb
      replace hv := hv.far hb
      replace hB := hB.trans (hb.mono hB.size)
      clear hb CM
      have hq := (Below.refl w2.heap.size w2).alloc (Nat.le_refl _) (.cells #[.int .i64 0, .int .i64 0, .int .i64 0, .int .i64 0, .int .i64 0, .bool false, .bool false, .slice TM 0 cM] 39)
      have hY := Bx.new w2 #[.int .i64 0, .int .i64 0, .int .i64 0, .int .i64 0, .int .i64 0, .bool false, .bool false, .slice TM 0 cM] 39
      replace hX := hX.below hq
      replace hB := hB.trans (hq.mono hB.size)
      replace hv := hv.far hq
      replace hM := hM.far hq
      clear hq
      go_wp2_with fail
      generalize hU : w2.alloc _ = u2 at *
      clear hU
      have x0 := hX.2 0 _ rfl
      have x1 := hX.2 1 _ rfl
      have x2 := hX.2 2 _ rfl
      have x3 := hX.2 3 _ rfl
      have x4 := hX.2 4 _ rfl
      have x5 := hX.2 5 _ rfl
      have x6 := hX.2 6 _ rfl
      have x7 := hX.2 7 _ rfl
      have y0 := hY.2 0 _ rfl
      have y1 := hY.2 1 _ rfl
      have y2 := hY.2 2 _ rfl
      have y3 := hY.2 3 _ rfl
      have y4 := hY.2 4 _ rfl
      have y5 := hY.2 5 _ rfl
      have y6 := hY.2 6 _ rfl
      have y7 := hY.2 7 _ rfl
      replace hX := hX.drewE
      replace hY := hY.drewE
      replace hv := hv.drew
      replace hM := hM.drew
      replace hB := hB.drew
      go_region_held3 (fun w' => w'.cell? ⟨w1.heap.size, 0, none⟩ = some (.int .i64 id) ∧ w'.cell? ⟨w1.heap.size, 1, none⟩ = some (.int .i64 knd) ∧ w'.cell? ⟨w1.heap.size, 2, none⟩ = some (.int .i64 loc) ∧ w'.cell? ⟨w1.heap.size, 3, none⟩ = some (.int .i64 rem) ∧ w'.cell? ⟨w1.heap.size, 4, none⟩ = some (.int .i64 net) ∧ w'.cell? ⟨w1.heap.size, 5, none⟩ = some (.bool df) ∧ w'.cell? ⟨w1.heap.size, 6, none⟩ = some (.bool sum) ∧ w'.cell? ⟨w1.heap.size, 7, none⟩ = some (.slice T opts.length c) ∧ w'.cell? ⟨w2.heap.size, 0, none⟩ = some (.int .i64 0) ∧ w'.cell? ⟨w2.heap.size, 1, none⟩ = some (.int .i64 0) ∧ w'.cell? ⟨w2.heap.size, 2, none⟩ = some (.int .i64 0) ∧ w'.cell? ⟨w2.heap.size, 3, none⟩ = some (.int .i64 0) ∧ w'.cell? ⟨w2.heap.size, 4, none⟩ = some (.int .i64 0) ∧ w'.cell? ⟨w2.heap.size, 5, none⟩ = some (.bool false) ∧ w'.cell? ⟨w2.heap.size, 6, none⟩ = some (.bool false) ∧ w'.cell? ⟨w2.heap.size, 7, none⟩ = some (.slice TM 0 cM)) (go_keep) (first | (go_at_call 16; refine (CS.out _ hv.reads.2).mono ?_; rintro x q1 ⟨TS, cS, rfl, hS, hb⟩; replace hX := hX.below hb; replace hY := hY.below hb; replace hv := hv.far hb; replace hM := hM.far hb; replace hB := hB.trans (hb.mono hB.size); have x0 := hX.2 0 _ rfl; have x1 := hX.2 1 _ rfl; have x2 := hX.2 2 _ rfl; have x3 := hX.2 3 _ rfl; have x4 := hX.2 4 _ rfl; have x5 := hX.2 5 _ rfl; have x6 := hX.2 6 _ rfl; have x7 := hX.2 7 _ rfl; have y0 := hY.2 0 _ rfl; have y1 := hY.2 1 _ rfl; have y2 := hY.2 2 _ rfl; have y3 := hY.2 3 _ rfl; have y4 := hY.2 4 _ rfl; have y5 := hY.2 5 _ rfl; have y6 := hY.2 6 _ rfl; have y7 := hY.2 7 _ rfl; clear hb) | (go_at_call 23; refine (CF.out _ _ _ _ _ hM.reads.2 hS.reads.2).mono ?_; rintro x q2 ⟨rfl, hb⟩; replace hX := hX.below hb; replace hY := hY.below hb; replace hv := hv.far hb; replace hM := hM.far hb; replace hB := hB.trans (hb.mono hB.size); have x0 := hX.2 0 _ rfl; have x1 := hX.2 1 _ rfl; have x2 := hX.2 2 _ rfl; have x3 := hX.2 3 _ rfl; have x4 := hX.2 4 _ rfl; have x5 := hX.2 5 _ rfl; have x6 := hX.2 6 _ rfl; have x7 := hX.2 7 _ rfl; have y0 := hY.2 0 _ rfl; have y1 := hY.2 1 _ rfl; have y2 := hY.2 2 _ rfl; have y3 := hY.2 3 _ rfl; have y4 := hY.2 4 _ rfl; have y5 := hY.2 5 _ rfl; have y6 := hY.2 6 _ rfl; have y7 := hY.2 7 _ rfl; clear hb hS) | (go_at_call 24; refine (CIe.out _ hv.reads.2).mono ?_; rintro x q3 ⟨rfl, hb⟩; replace hX := hX.below hb; replace hY := hY.below hb; replace hv := hv.far hb; replace hM := hM.far hb; replace hB := hB.trans (hb.mono hB.size); have x0 := hX.2 0 _ rfl; have x1 := hX.2 1 _ rfl; have x2 := hX.2 2 _ rfl; have x3 := hX.2 3 _ rfl; have x4 := hX.2 4 _ rfl; have x5 := hX.2 5 _ rfl; have x6 := hX.2 6 _ rfl; have x7 := hX.2 7 _ rfl; have y0 := hY.2 0 _ rfl; have y1 := hY.2 1 _ rfl; have y2 := hY.2 2 _ rfl; have y3 := hY.2 3 _ rfl; have y4 := hY.2 4 _ rfl; have y5 := hY.2 5 _ rfl; have y6 := hY.2 6 _ rfl; have y7 := hY.2 7 _ rfl; clear hb) | (go_at_call 25; refine (CSe.out _ hv.reads.2).mono ?_; rintro x q4 ⟨rfl, hb⟩; replace hX := hX.below hb; replace hY := hY.below hb; replace hv := hv.far hb; replace hM := hM.far hb; replace hB := hB.trans (hb.mono hB.size); have x0 := hX.2 0 _ rfl; have x1 := hX.2 1 _ rfl; have x2 := hX.2 2 _ rfl; have x3 := hX.2 3 _ rfl; have x4 := hX.2 4 _ rfl; have x5 := hX.2 5 _ rfl; have x6 := hX.2 6 _ rfl; have x7 := hX.2 7 _ rfl; have y0 := hY.2 0 _ rfl; have y1 := hY.2 1 _ rfl; have y2 := hY.2 2 _ rfl; have y3 := hY.2 3 _ rfl; have y4 := hY.2 4 _ rfl; have y5 := hY.2 5 _ rfl; have y6 := hY.2 6 _ rfl; have y7 := hY.2 7 _ rfl; clear hb))
      go_wp2_with fail
      replace hX := hX.drewE
      replace hY := hY.drewE
      replace hv := hv.drew
      replace hM := hM.drew
      replace hB := hB.drew
      go_region_held3 (fun w' => w'.cell? ⟨w1.heap.size, 0, none⟩ = some (.int .i64 id) ∧ w'.cell? ⟨w1.heap.size, 1, none⟩ = some (.int .i64 knd) ∧ w'.cell? ⟨w1.heap.size, 2, none⟩ = some (.int .i64 loc) ∧ w'.cell? ⟨w1.heap.size, 3, none⟩ = some (.int .i64 rem) ∧ w'.cell? ⟨w1.heap.size, 4, none⟩ = some (.int .i64 net) ∧ w'.cell? ⟨w1.heap.size, 5, none⟩ = some (.bool df) ∧ w'.cell? ⟨w1.heap.size, 6, none⟩ = some (.bool sum) ∧ w'.cell? ⟨w1.heap.size, 7, none⟩ = some (.slice T opts.length c) ∧ w'.cell? ⟨w2.heap.size, 0, none⟩ = some (.int .i64 0) ∧ w'.cell? ⟨w2.heap.size, 1, none⟩ = some (.int .i64 0) ∧ w'.cell? ⟨w2.heap.size, 2, none⟩ = some (.int .i64 0) ∧ w'.cell? ⟨w2.heap.size, 3, none⟩ = some (.int .i64 0) ∧ w'.cell? ⟨w2.heap.size, 4, none⟩ = some (.int .i64 0) ∧ w'.cell? ⟨w2.heap.size, 5, none⟩ = some (.bool false) ∧ w'.cell? ⟨w2.heap.size, 6, none⟩ = some (.bool false) ∧ w'.cell? ⟨w2.heap.size, 7, none⟩ = some (.slice TM 0 cM)) (go_keep) (first | (go_at_call 16; refine (CS.out _ hv.reads.2).mono ?_; rintro x q1 ⟨TS, cS, rfl, hS, hb⟩; replace hX := hX.below hb; replace hY := hY.below hb; replace hv := hv.far hb; replace hM := hM.far hb; replace hB := hB.trans (hb.mono hB.size); have x0 := hX.2 0 _ rfl; have x1 := hX.2 1 _ rfl; have x2 := hX.2 2 _ rfl; have x3 := hX.2 3 _ rfl; have x4 := hX.2 4 _ rfl; have x5 := hX.2 5 _ rfl; have x6 := hX.2 6 _ rfl; have x7 := hX.2 7 _ rfl; have y0 := hY.2 0 _ rfl; have y1 := hY.2 1 _ rfl; have y2 := hY.2 2 _ rfl; have y3 := hY.2 3 _ rfl; have y4 := hY.2 4 _ rfl; have y5 := hY.2 5 _ rfl; have y6 := hY.2 6 _ rfl; have y7 := hY.2 7 _ rfl; clear hb) | (go_at_call 23; refine (CF.out _ _ _ _ _ hM.reads.2 hS.reads.2).mono ?_; rintro x q2 ⟨rfl, hb⟩; replace hX := hX.below hb; replace hY := hY.below hb; replace hv := hv.far hb; replace hM := hM.far hb; replace hB := hB.trans (hb.mono hB.size); have x0 := hX.2 0 _ rfl; have x1 := hX.2 1 _ rfl; have x2 := hX.2 2 _ rfl; have x3 := hX.2 3 _ rfl; have x4 := hX.2 4 _ rfl; have x5 := hX.2 5 _ rfl; have x6 := hX.2 6 _ rfl; have x7 := hX.2 7 _ rfl; have y0 := hY.2 0 _ rfl; have y1 := hY.2 1 _ rfl; have y2 := hY.2 2 _ rfl; have y3 := hY.2 3 _ rfl; have y4 := hY.2 4 _ rfl; have y5 := hY.2 5 _ rfl; have y6 := hY.2 6 _ rfl; have y7 := hY.2 7 _ rfl; clear hb hS) | (go_at_call 24; refine (CIe.out _ hv.reads.2).mono ?_; rintro x q3 ⟨rfl, hb⟩; replace hX := hX.below hb; replace hY := hY.below hb; replace hv := hv.far hb; replace hM := hM.far hb; replace hB := hB.trans (hb.mono hB.size); have x0 := hX.2 0 _ rfl; have x1 := hX.2 1 _ rfl; have x2 := hX.2 2 _ rfl; have x3 := hX.2 3 _ rfl; have x4 := hX.2 4 _ rfl; have x5 := hX.2 5 _ rfl; have x6 := hX.2 6 _ rfl; have x7 := hX.2 7 _ rfl; have y0 := hY.2 0 _ rfl; have y1 := hY.2 1 _ rfl; have y2 := hY.2 2 _ rfl; have y3 := hY.2 3 _ rfl; have y4 := hY.2 4 _ rfl; have y5 := hY.2 5 _ rfl; have y6 := hY.2 6 _ rfl; have y7 := hY.2 7 _ rfl; clear hb) | (go_at_call 25; refine (CSe.out _ hv.reads.2).mono ?_; rintro x q4 ⟨rfl, hb⟩; replace hX := hX.below hb; replace hY := hY.below hb; replace hv := hv.far hb; replace hM := hM.far hb; replace hB := hB.trans (hb.mono hB.size); have x0 := hX.2 0 _ rfl; have x1 := hX.2 1 _ rfl; have x2 := hX.2 2 _ rfl; have x3 := hX.2 3 _ rfl; have x4 := hX.2 4 _ rfl; have x5 := hX.2 5 _ rfl; have x6 := hX.2 6 _ rfl; have x7 := hX.2 7 _ rfl; have y0 := hY.2 0 _ rfl; have y1 := hY.2 1 _ rfl; have y2 := hY.2 2 _ rfl; have y3 := hY.2 3 _ rfl; have y4 := hY.2 4 _ rfl; have y5 := hY.2 5 _ rfl; have y6 := hY.2 6 _ rfl; have y7 := hY.2 7 _ rfl; clear hb))
      go_wp2
      go_ret
      exact ⟨rfl, hB⟩
    · rw [edM_yes hok] at CM CS CF
      rw [hok] at CIe CSe
      have CIm : Hid (∀ (T1 : Option Addr) (c1 : Nat) (u : World), CellsAt u T1 (opF e.opts) → Calls Try.prog 24 #[.agg (edL (edS e) T1 c1)] u fun x w' => x = .returned (.bool true) ∧ Below u.heap.size u w') := fun T1 c1 u h1 => (edOk_S e).trans hok ▸ i_EndOk (edS e) _ _ u h1 hn
      have CMm : Hid (∀ (B : Nat) (T1 : Option Addr) (c1 : Nat) (u : World), ownV u B 33 3 (.slice T1 e.opts.length c1) e.opts.length (opF e.opts) → Calls Try.prog 18 #[.agg (edL (edS e) T1 c1)] u fun x w' => ∃ T' c', x = .returned (.agg (edL e T' c')) ∧ ownV w' u.heap.size 33 3 (.slice T' e.opts.length c') e.opts.length (opF e.opts) ∧ Below u.heap.size u w') := fun B T1 c1 u h1 => by
        have := i_MirrorOf (edS e) T1 c1 u h1.reads.2 h1.noneT hn
        rw [edM_yes ((edOk_S e).trans hok)] at this
        exact this
      have CE : Hid (∀ (T1 T2 : Option Addr) (c1 c2 : Nat) (u : World), CellsAt u T1 (opF e.opts) → CellsAt u T2 (opF e.opts) → Calls Try.prog 23 #[.agg (edL e T1 c1), .agg (edL e T2 c2)] u fun x w' => x = .returned (.bool true) ∧ Below u.heap.size u w') := fun T1 T2 c1 c2 u h1 h2 => l_sameEnd e _ _ _ _ u h1 h2 (by omega)
      clear hn hok hT
      obtain ⟨id, knd, loc, rem, net, df, sum, opts⟩ := e
      simp only [edL, edS] at *
      have k1 : ∀ z : Int, (z == z) = true := fun z => by simp
      have hq := (Below.refl w1.heap.size w1).alloc (Nat.le_refl _) (.cells #[.int .i64 id, .int .i64 knd, .int .i64 loc, .int .i64 rem, .int .i64 net, .bool df, .bool sum, .slice T opts.length c] 39)
      have hX := Bx.new w1 #[.int .i64 id, .int .i64 knd, .int .i64 loc, .int .i64 rem, .int .i64 net, .bool df, .bool sum, .slice T opts.length c] 39
      replace hB := hB.trans (hq.mono hB.size)
      replace hv := hv.far hq
      clear hq
      go_wp2_with fail
      generalize hU : w1.alloc _ = u1 at *
      clear hU
      refine (CM.out _ hv.reads.2).mono ?_
      rintro x w2 ⟨TM, cM, rfl, hM, hb⟩
      replace hX := hX.below hb
      replace hv := hv.far hb
      replace hB := hB.trans (hb.mono hB.size)
      clear hb CM
      have hq := (Below.refl w2.heap.size w2).alloc (Nat.le_refl _) (.cells #[.int .i64 id, .int .i64 knd, .int .i64 rem, .int .i64 loc, .int .i64 net, .bool df, .bool sum, .slice TM opts.length cM] 39)
      have hY := Bx.new w2 #[.int .i64 id, .int .i64 knd, .int .i64 rem, .int .i64 loc, .int .i64 net, .bool df, .bool sum, .slice TM opts.length cM] 39
      replace hX := hX.below hq
      replace hB := hB.trans (hq.mono hB.size)
      replace hv := hv.far hq
      replace hM := hM.far hq
      clear hq
      go_wp2_with fail
      generalize hU : w2.alloc _ = u2 at *
      clear hU
      have x0 := hX.2 0 _ rfl
      have x1 := hX.2 1 _ rfl
      have x2 := hX.2 2 _ rfl
      have x3 := hX.2 3 _ rfl
      have x4 := hX.2 4 _ rfl
      have x5 := hX.2 5 _ rfl
      have x6 := hX.2 6 _ rfl
      have x7 := hX.2 7 _ rfl
      have y0 := hY.2 0 _ rfl
      have y1 := hY.2 1 _ rfl
      have y2 := hY.2 2 _ rfl
      have y3 := hY.2 3 _ rfl
      have y4 := hY.2 4 _ rfl
      have y5 := hY.2 5 _ rfl
      have y6 := hY.2 6 _ rfl
      have y7 := hY.2 7 _ rfl
      replace hX := hX.drewE
      replace hY := hY.drewE
      replace hv := hv.drew
      replace hM := hM.drew
      replace hB := hB.drew
      go_region_held3 (fun w' => w'.cell? ⟨w1.heap.size, 0, none⟩ = some (.int .i64 id) ∧ w'.cell? ⟨w1.heap.size, 1, none⟩ = some (.int .i64 knd) ∧ w'.cell? ⟨w1.heap.size, 2, none⟩ = some (.int .i64 loc) ∧ w'.cell? ⟨w1.heap.size, 3, none⟩ = some (.int .i64 rem) ∧ w'.cell? ⟨w1.heap.size, 4, none⟩ = some (.int .i64 net) ∧ w'.cell? ⟨w1.heap.size, 5, none⟩ = some (.bool df) ∧ w'.cell? ⟨w1.heap.size, 6, none⟩ = some (.bool sum) ∧ w'.cell? ⟨w1.heap.size, 7, none⟩ = some (.slice T opts.length c) ∧ w'.cell? ⟨w2.heap.size, 0, none⟩ = some (.int .i64 id) ∧ w'.cell? ⟨w2.heap.size, 1, none⟩ = some (.int .i64 knd) ∧ w'.cell? ⟨w2.heap.size, 2, none⟩ = some (.int .i64 rem) ∧ w'.cell? ⟨w2.heap.size, 3, none⟩ = some (.int .i64 loc) ∧ w'.cell? ⟨w2.heap.size, 4, none⟩ = some (.int .i64 net) ∧ w'.cell? ⟨w2.heap.size, 5, none⟩ = some (.bool df) ∧ w'.cell? ⟨w2.heap.size, 6, none⟩ = some (.bool sum) ∧ w'.cell? ⟨w2.heap.size, 7, none⟩ = some (.slice TM opts.length cM)) (go_keep) (first | (go_at_call 16; refine (CS.out _ hv.reads.2).mono ?_; rintro x q1 ⟨TS, cS, rfl, hS, hb⟩; replace hX := hX.below hb; replace hY := hY.below hb; replace hv := hv.far hb; replace hM := hM.far hb; replace hB := hB.trans (hb.mono hB.size); have x0 := hX.2 0 _ rfl; have x1 := hX.2 1 _ rfl; have x2 := hX.2 2 _ rfl; have x3 := hX.2 3 _ rfl; have x4 := hX.2 4 _ rfl; have x5 := hX.2 5 _ rfl; have x6 := hX.2 6 _ rfl; have x7 := hX.2 7 _ rfl; have y0 := hY.2 0 _ rfl; have y1 := hY.2 1 _ rfl; have y2 := hY.2 2 _ rfl; have y3 := hY.2 3 _ rfl; have y4 := hY.2 4 _ rfl; have y5 := hY.2 5 _ rfl; have y6 := hY.2 6 _ rfl; have y7 := hY.2 7 _ rfl; clear hb) | (go_at_call 23; refine (CF.out _ _ _ _ _ hM.reads.2 hS.reads.2).mono ?_; rintro x q2 ⟨rfl, hb⟩; replace hX := hX.below hb; replace hY := hY.below hb; replace hv := hv.far hb; replace hM := hM.far hb; replace hB := hB.trans (hb.mono hB.size); have x0 := hX.2 0 _ rfl; have x1 := hX.2 1 _ rfl; have x2 := hX.2 2 _ rfl; have x3 := hX.2 3 _ rfl; have x4 := hX.2 4 _ rfl; have x5 := hX.2 5 _ rfl; have x6 := hX.2 6 _ rfl; have x7 := hX.2 7 _ rfl; have y0 := hY.2 0 _ rfl; have y1 := hY.2 1 _ rfl; have y2 := hY.2 2 _ rfl; have y3 := hY.2 3 _ rfl; have y4 := hY.2 4 _ rfl; have y5 := hY.2 5 _ rfl; have y6 := hY.2 6 _ rfl; have y7 := hY.2 7 _ rfl; clear hb hS) | (go_at_call 24; refine (CIe.out _ hv.reads.2).mono ?_; rintro x q3 ⟨rfl, hb⟩; replace hX := hX.below hb; replace hY := hY.below hb; replace hv := hv.far hb; replace hM := hM.far hb; replace hB := hB.trans (hb.mono hB.size); have x0 := hX.2 0 _ rfl; have x1 := hX.2 1 _ rfl; have x2 := hX.2 2 _ rfl; have x3 := hX.2 3 _ rfl; have x4 := hX.2 4 _ rfl; have x5 := hX.2 5 _ rfl; have x6 := hX.2 6 _ rfl; have x7 := hX.2 7 _ rfl; have y0 := hY.2 0 _ rfl; have y1 := hY.2 1 _ rfl; have y2 := hY.2 2 _ rfl; have y3 := hY.2 3 _ rfl; have y4 := hY.2 4 _ rfl; have y5 := hY.2 5 _ rfl; have y6 := hY.2 6 _ rfl; have y7 := hY.2 7 _ rfl; clear hb) | (go_at_call 25; refine (CSe.out _ hv.reads.2).mono ?_; rintro x q4 ⟨rfl, hb⟩; replace hX := hX.below hb; replace hY := hY.below hb; replace hv := hv.far hb; replace hM := hM.far hb; replace hB := hB.trans (hb.mono hB.size); have x0 := hX.2 0 _ rfl; have x1 := hX.2 1 _ rfl; have x2 := hX.2 2 _ rfl; have x3 := hX.2 3 _ rfl; have x4 := hX.2 4 _ rfl; have x5 := hX.2 5 _ rfl; have x6 := hX.2 6 _ rfl; have x7 := hX.2 7 _ rfl; have y0 := hY.2 0 _ rfl; have y1 := hY.2 1 _ rfl; have y2 := hY.2 2 _ rfl; have y3 := hY.2 3 _ rfl; have y4 := hY.2 4 _ rfl; have y5 := hY.2 5 _ rfl; have y6 := hY.2 6 _ rfl; have y7 := hY.2 7 _ rfl; clear hb))
      go_wp2_with fail
      replace hX := hX.drewE
      replace hY := hY.drewE
      replace hv := hv.drew
      replace hM := hM.drew
      replace hB := hB.drew
      go_region_held3 (fun w' => w'.cell? ⟨w1.heap.size, 0, none⟩ = some (.int .i64 id) ∧ w'.cell? ⟨w1.heap.size, 1, none⟩ = some (.int .i64 knd) ∧ w'.cell? ⟨w1.heap.size, 2, none⟩ = some (.int .i64 loc) ∧ w'.cell? ⟨w1.heap.size, 3, none⟩ = some (.int .i64 rem) ∧ w'.cell? ⟨w1.heap.size, 4, none⟩ = some (.int .i64 net) ∧ w'.cell? ⟨w1.heap.size, 5, none⟩ = some (.bool df) ∧ w'.cell? ⟨w1.heap.size, 6, none⟩ = some (.bool sum) ∧ w'.cell? ⟨w1.heap.size, 7, none⟩ = some (.slice T opts.length c) ∧ w'.cell? ⟨w2.heap.size, 0, none⟩ = some (.int .i64 id) ∧ w'.cell? ⟨w2.heap.size, 1, none⟩ = some (.int .i64 knd) ∧ w'.cell? ⟨w2.heap.size, 2, none⟩ = some (.int .i64 rem) ∧ w'.cell? ⟨w2.heap.size, 3, none⟩ = some (.int .i64 loc) ∧ w'.cell? ⟨w2.heap.size, 4, none⟩ = some (.int .i64 net) ∧ w'.cell? ⟨w2.heap.size, 5, none⟩ = some (.bool df) ∧ w'.cell? ⟨w2.heap.size, 6, none⟩ = some (.bool sum) ∧ w'.cell? ⟨w2.heap.size, 7, none⟩ = some (.slice TM opts.length cM)) (go_keep) (first | (go_at_call 24; refine (CIm.out _ _ _ hM.reads.2).mono ?_; rintro x p1 ⟨rfl, hb⟩; replace hX := hX.below hb; replace hY := hY.below hb; replace hv := hv.far hb; replace hM := hM.far hb; replace hB := hB.trans (hb.mono hB.size); have x0 := hX.2 0 _ rfl; have x1 := hX.2 1 _ rfl; have x2 := hX.2 2 _ rfl; have x3 := hX.2 3 _ rfl; have x4 := hX.2 4 _ rfl; have x5 := hX.2 5 _ rfl; have x6 := hX.2 6 _ rfl; have x7 := hX.2 7 _ rfl; have y0 := hY.2 0 _ rfl; have y1 := hY.2 1 _ rfl; have y2 := hY.2 2 _ rfl; have y3 := hY.2 3 _ rfl; have y4 := hY.2 4 _ rfl; have y5 := hY.2 5 _ rfl; have y6 := hY.2 6 _ rfl; have y7 := hY.2 7 _ rfl; clear hb) | (go_at_call 18; refine (CMm.out _ _ _ _ hM).mono ?_; rintro x p2 ⟨TS, cS, rfl, hS, hb⟩; replace hX := hX.below hb; replace hY := hY.below hb; replace hv := hv.far hb; replace hM := hM.far hb; replace hB := hB.trans (hb.mono hB.size); have x0 := hX.2 0 _ rfl; have x1 := hX.2 1 _ rfl; have x2 := hX.2 2 _ rfl; have x3 := hX.2 3 _ rfl; have x4 := hX.2 4 _ rfl; have x5 := hX.2 5 _ rfl; have x6 := hX.2 6 _ rfl; have x7 := hX.2 7 _ rfl; have y0 := hY.2 0 _ rfl; have y1 := hY.2 1 _ rfl; have y2 := hY.2 2 _ rfl; have y3 := hY.2 3 _ rfl; have y4 := hY.2 4 _ rfl; have y5 := hY.2 5 _ rfl; have y6 := hY.2 6 _ rfl; have y7 := hY.2 7 _ rfl; clear hb) | (go_at_call 23; refine (CE.out _ _ _ _ _ hS.reads.2 hv.reads.2).mono ?_; rintro x p3 ⟨rfl, hb⟩; replace hX := hX.below hb; replace hY := hY.below hb; replace hv := hv.far hb; replace hM := hM.far hb; replace hB := hB.trans (hb.mono hB.size); have x0 := hX.2 0 _ rfl; have x1 := hX.2 1 _ rfl; have x2 := hX.2 2 _ rfl; have x3 := hX.2 3 _ rfl; have x4 := hX.2 4 _ rfl; have x5 := hX.2 5 _ rfl; have x6 := hX.2 6 _ rfl; have x7 := hX.2 7 _ rfl; have y0 := hY.2 0 _ rfl; have y1 := hY.2 1 _ rfl; have y2 := hY.2 2 _ rfl; have y3 := hY.2 3 _ rfl; have y4 := hY.2 4 _ rfl; have y5 := hY.2 5 _ rfl; have y6 := hY.2 6 _ rfl; have y7 := hY.2 7 _ rfl; clear hb hS))
      go_wp2
      go_ret
      exact ⟨rfl, hB⟩
end Go.Proofs.Ytnheppkjeoiipaa
