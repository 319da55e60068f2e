/-
  Contracts of frames that are hurt, and of the drawn frames of the laws.
-/
import Derived.Test.YtlpapncgcgllfaaDrawf1
namespace Go.Proofs.Ytlpapncgcgllfaa
open Go.RowKit Go.PlainAid
/-- block G is just a frame's cells -/
def Fb (W : World) (G : Nat) (cs : Array Value) : Prop := W.heap[G]? = some (.cells cs 24 (0, 0))
theorem Fb.lt {W : World} {G : Nat} {cs : Array Value} (h : Fb W G cs) : G < W.heap.size := lt_of_block h
theorem Fb.new (W : World) (cs : Array Value) : Fb (W.alloc (.cells cs 24)) W.heap.size cs := heap_alloc_new W _
theorem Fb.below {W W' : World} {G : Nat} {cs : Array Value} (h : Fb W G cs) (hb : Below W.heap.size W W') : Fb W' G cs := (hb.block G h.lt).trans h
theorem Fb.only {W W' : World} {b G : Nat} {cs : Array Value} (h : Fb W G cs) (k : Only b W W') (hg : G ≠ b) : Fb W' G cs := (k.block G h.lt (by simp; exact hg)).trans h
theorem Fb.set {W : World} {G : Nat} {cs : Array Value} (h : Fb W G cs) (j : Nat) (u : Value) : Fb (W.setCell ⟨G, j, none⟩ u) G (cs.setIfInBounds j u) := heap_setCell_same W G j cs _ u h
theorem Fb.other {W : World} {G : Nat} {cs : Array Value} (h : Fb W G cs) {b' j : Nat} (hb : b' ≠ G) (u : Value) : Fb (W.setCell ⟨b', j, none⟩ u) G cs := (heap_setCell_other W ⟨b', j, none⟩ G u hb.symm).trans h
theorem Fb.cell {W : World} {G : Nat} {cs : Array Value} (h : Fb W G cs) (j : Nat) (v : Value) (hj : cs[j]? = some v) : W.cell? ⟨G, j, none⟩ = some v := by rw [cell_of_row W G j _ _ _ h]; exact hj
theorem Fb.frozen {W : World} {G : Nat} {cs : Array Value} (h : Fb W G cs) (j : Nat) : W.frozen? ⟨G, j, none⟩ = false := frozen_of_row W G j _ _ h
theorem Fb.drew {W : World} {G : Nat} {cs : Array Value} (h : Fb W G cs) : Fb W.drew G cs := h
/-- a row of numbers is no frame's block -/
theorem own_ne {W : World} {B G : Nat} {v : Value} {l : List Int} {cs : Array Value} (h : ownI W B v l) (k : Fb W G cs) : v.ownBlock ≠ some G := by
  obtain ⟨_, h2⟩ := h
  rcases h2 with ⟨rfl, _⟩ | ⟨g, cap, cur, rfl, _, hh, _⟩
  · simp [Value.ownBlock]
  · intro e
    have e2 : g = G := by simpa [Value.ownBlock] using e
    subst e2
    unfold Fb at k
    rw [k] at hh
    injection hh with hh
    injection hh with _ ht
    exact absurd ht (by decide)
theorem step_append_g {w : World} {ops : Array Oper} {o : Oper} {a : Act} {K : Act → World → Prop} {Q : Exit → Act → World → Prop} {E : Prop} (hgd : o.guard = none) (s x : Operand)
    (ho : o.op = .call { callee := .builtin .append, args := #[s, x], argTypes := #[22, 22] })
    (B : Nat) (v : Value) (l : List Int) (hs : a.eval s = v) (hown : ownI w B v l)
    (c : Int) (hx : a.eval x = .slice (some ⟨w.heap.size, 0, none⟩) 1 1) (hl : l.length ≤ 1099511627776) (hB : B ≤ w.heap.size)
    (h : ∀ v' w', ownI w' B v' (l ++ [c]) → Below B w w' → (∀ G cs, Fb w G cs → Fb w' G cs) → K (a.put o.dst v') w') :
    if Region.wanted o (yielded ops a.tmps) = true then Oper.wp Try.prog o a (w.alloc (.cells #[.int .i64 c] 2)) K Q else E := by
  have hw : Region.wanted o (yielded ops a.tmps) = true := by simp [Region.wanted, hgd]
  rw [if_pos hw]
  obtain ⟨i0, hi, hz0, hz1, hz2⟩ := info_parts Try.infoI
  have hcs : ∀ j u, [Value.int .i64 c][j]? = some u → (w.alloc (.cells #[.int .i64 c] 2)).cell? ((⟨w.heap.size, 0, none⟩ : Addr).add j) = some u := by
    intro j u hj
    match j, hj with
    | 0, hj => simp at hj; subst hj; simp [Addr.add]
  have hB' : B ≤ (w.alloc (.cells #[.int .i64 c] 2)).heap.size := by simp; omega
  refine wp_append_own _ s x 22 ho B 2 i0 (.int .i64 0) 1 8 Try.underlying22 hi hz0 hz1 hz2 rfl (by decide) v l.length (icells l) hs (ownI.alloc hown _) ⟨w.heap.size, 0, none⟩ 1 1 [.int .i64 c] hx rfl hcs ?_ (by unfold maxLen; omega) (by omega) hB' ?_
  · intro u hu; simp at hu; subst hu; rfl
  · intro v' w' h2 h3 _
    refine h v' w' ?_ (((Below.refl B w).alloc hB _).grown h3 hB' fun k hk => (World.ownsRow.lt hown k hk).1) ?_
    · unfold ownI
      have e3 : icells (l ++ [c]) = icells l ++ [.int .i64 c] := by simp [icells]
      rw [e3]; simpa using h2
    · intro G cs hG
      have hG1 : Fb (w.alloc (.cells #[.int .i64 c] 2)) G cs := hG.below ((Below.refl _ w).alloc (Nat.le_refl _) _)
      exact (h3.block G hG1.lt (fun e => own_ne hown hG e.symm)).trans hG1

set_option maxRecDepth 100000 in
set_option maxHeartbeats 6400000 in
theorem r_hurtFrame (b B0 : Nat) (C : Option Addr) (len cap : Nat) (d s : Int) (v : Value) (l : List Int) (t : Int) (x : ByteArray) (w : World) (h : RdI w b C len cap) (hown : ownI w B0 v l) (hb : b < B0) (hB0 : B0 ≤ w.heap.size) (hl : l.length ≤ 1000) (hx : x.size ≤ 65600) :
    Calls Try.prog 47 #[.pointer (some ⟨b, 0, none⟩), .agg #[.int .i64 d, .int .i64 s, v, .int .i64 t, .string x]] w fun e w' => ∃ (d' s' : Int) (v' : Value) (l' : List Int) (t' : Int) (x' : ByteArray), e = .returned (.agg #[.int .i64 d', .int .i64 s', v', .int .i64 t', .string x']) ∧ ownI w' B0 v' l' ∧ l'.length ≤ l.length + 1 ∧ x'.size ≤ 65600 ∧ RdI w' b C len cap ∧ Below b w w' := by
  have hlt := h.lt
  obtain ⟨Tv, cv, rfl⟩ := hown.form
  obtain ⟨W1, hW1⟩ : ∃ W1, W1 = w.alloc (.cells #[.int .i64 d, .int .i64 s, .slice Tv l.length cv, .int .i64 t, .string x] 24) := ⟨_, rfl⟩
  have hs1 : W1.heap.size = w.heap.size + 1 := by rw [hW1]; simp
  have hG : Fb W1 w.heap.size #[.int .i64 d, .int .i64 s, .slice Tv l.length cv, .int .i64 t, .string x] := by rw [hW1]; exact Fb.new w _
  have hd1 : RdI W1 b C len cap := by rw [hW1]; exact h.alloc _
  have hB1 : Below b w W1 := by rw [hW1]; exact (Below.refl _ _).alloc (by omega) _
  have ho1 : ownI W1 B0 (.slice Tv l.length cv) l := by rw [hW1]; exact hown.alloc _
  have hR : Fb (W1.alloc (.cells fr0 24)) (w.heap.size + 1) fr0 := by have := Fb.new W1 fr0; rw [hs1] at this; exact this
  replace hG := hG.below ((Below.refl _ W1).alloc (Nat.le_refl _) (.cells fr0 24))
  replace hd1 := hd1.alloc (.cells fr0 24)
  replace hB1 := hB1.alloc (by omega) (.cells fr0 24)
  replace ho1 := ho1.alloc (.cells fr0 24)
  have hsz : (W1.alloc (.cells fr0 24)).heap.size = w.heap.size + 2 := by simp; omega
  subst hW1
  have hneG : w.heap.size ≠ b := by omega
  have hneR : w.heap.size + 1 ≠ b := by omega
  go_enter Try.func47, Try.ntmps47
  go_wp2_with fail
  generalize (w.alloc (.cells #[.int .i64 d, .int .i64 s, .slice Tv l.length cv, .int .i64 t, .string x] 24)).alloc (.cells fr0 24) = W2 at *
  refine (r_below b C len cap _ _ (by omega) hd1).mono ?_
  rintro e w3 ⟨y, rfl, hy0, hy1, hd3, hO3⟩
  replace hG := hG.only hO3 hneG
  replace hR := hR.only hO3 hneR
  replace ho1 := ownI.by ho1 hO3 hb
  replace hB1 := hB1.trans (hO3.below (Nat.le_refl _) (by omega))
  have hs3 : w.heap.size + 2 ≤ w3.heap.size := by have := hO3.size; omega
  clear hO3 hd1 hsz hs1 h hown W2
  have hy : y = 0 ∨ y = 1 ∨ y = 2 ∨ y = 3 ∨ y = 4 ∨ 4 < y := by omega
  clear hy0 hy1
  rcases hy with rfl | rfl | rfl | rfl | rfl | hy
  · have gq := hG.cell 0 _ rfl
    go_wp2_with fail
    clear gq
    refine (r_off b C len cap _ _ _ (by omega) (by omega) (by omega) (by omega) hd3).mono ?_
    rintro e w4 ⟨q, rfl, _, _, hd4, hOx⟩
    clear hd3
    have hd3 := hd4
    clear hd4
    replace hG := hG.only hOx hneG
    replace hR := hR.only hOx hneR
    replace ho1 := ownI.by ho1 hOx hb
    replace hB1 := hB1.trans (hOx.below (Nat.le_refl _) (by omega))
    replace hs3 := Nat.le_trans hs3 hOx.size
    clear hOx
    have g0 := hG.cell 0 _ rfl
    have g1 := hG.cell 1 _ rfl
    have g2 := hG.cell 2 _ rfl
    have g3 := hG.cell 3 _ rfl
    have g4 := hG.cell 4 _ rfl
    have gf := hG.frozen
    have r0 := hR.cell 0 _ rfl
    have r1 := hR.cell 1 _ rfl
    have r2 := hR.cell 2 _ rfl
    have r3 := hR.cell 3 _ rfl
    have r4 := hR.cell 4 _ rfl
    have rf := hR.frozen
    have gl := hG.lt
    have rl := hR.lt
    have hnG := own_ne ho1 hG
    have hnR := own_ne ho1 hR
    go_wp2
    refine bodyPost_ret (v := .agg #[.int .i64 q, .int .i64 s, .slice Tv l.length cv, .int .i64 t, .string x]) ?_ rfl ⟨q, s, _, l, t, x, rfl, ?_, by omega, by omega, ?_, ?_⟩
    · simp [results, Try.results47, go_sem, r0, r1, r2, r3, r4]
    · iterate 5 (refine ownsRow_setCell_other ?_ hnR _)
      iterate 1 (refine ownsRow_setCell_other ?_ hnG _)
      exact ho1
    · refine hd3.kept ?_
      exact ((((((Below.refl (b + 1) _).setCell (by simp; omega) _).setCell (by simp; omega) _).setCell (by simp; omega) _).setCell (by simp; omega) _).setCell (by simp; omega) _).setCell (by simp; omega) _
    · refine hB1.trans ?_
      exact ((((((Below.refl b _).setCell (by simp; omega) _).setCell (by simp; omega) _).setCell (by simp; omega) _).setCell (by simp; omega) _).setCell (by simp; omega) _).setCell (by simp; omega) _
  · have gq := hG.cell 3 _ rfl
    go_wp2_with fail
    clear gq
    refine (r_off b C len cap _ _ _ (by omega) (by omega) (by omega) (by omega) hd3).mono ?_
    rintro e w4 ⟨q, rfl, _, _, hd4, hOx⟩
    clear hd3
    have hd3 := hd4
    clear hd4
    replace hG := hG.only hOx hneG
    replace hR := hR.only hOx hneR
    replace ho1 := ownI.by ho1 hOx hb
    replace hB1 := hB1.trans (hOx.below (Nat.le_refl _) (by omega))
    replace hs3 := Nat.le_trans hs3 hOx.size
    clear hOx
    have g0 := hG.cell 0 _ rfl
    have g1 := hG.cell 1 _ rfl
    have g2 := hG.cell 2 _ rfl
    have g3 := hG.cell 3 _ rfl
    have g4 := hG.cell 4 _ rfl
    have gf := hG.frozen
    have r0 := hR.cell 0 _ rfl
    have r1 := hR.cell 1 _ rfl
    have r2 := hR.cell 2 _ rfl
    have r3 := hR.cell 3 _ rfl
    have r4 := hR.cell 4 _ rfl
    have rf := hR.frozen
    have gl := hG.lt
    have rl := hR.lt
    have hnG := own_ne ho1 hG
    have hnR := own_ne ho1 hR
    go_wp2
    refine bodyPost_ret (v := .agg #[.int .i64 d, .int .i64 s, .slice Tv l.length cv, .int .i64 q, .string x]) ?_ rfl ⟨d, s, _, l, q, x, rfl, ?_, by omega, by omega, ?_, ?_⟩
    · simp [results, Try.results47, go_sem, r0, r1, r2, r3, r4]
    · iterate 5 (refine ownsRow_setCell_other ?_ hnR _)
      iterate 1 (refine ownsRow_setCell_other ?_ hnG _)
      exact ho1
    · refine hd3.kept ?_
      exact ((((((Below.refl (b + 1) _).setCell (by simp; omega) _).setCell (by simp; omega) _).setCell (by simp; omega) _).setCell (by simp; omega) _).setCell (by simp; omega) _).setCell (by simp; omega) _
    · refine hB1.trans ?_
      exact ((((((Below.refl b _).setCell (by simp; omega) _).setCell (by simp; omega) _).setCell (by simp; omega) _).setCell (by simp; omega) _).setCell (by simp; omega) _).setCell (by simp; omega) _
  · have g0 := hG.cell 0 _ rfl
    have g1 := hG.cell 1 _ rfl
    have g2 := hG.cell 2 _ rfl
    have g3 := hG.cell 3 _ rfl
    have g4 := hG.cell 4 _ rfl
    have gf := hG.frozen
    have r0 := hR.cell 0 _ rfl
    have r1 := hR.cell 1 _ rfl
    have r2 := hR.cell 2 _ rfl
    have r3 := hR.cell 3 _ rfl
    have r4 := hR.cell 4 _ rfl
    have rf := hR.frozen
    have gl := hG.lt
    have rl := hR.lt
    have hnG := own_ne ho1 hG
    have hnR := own_ne ho1 hR
    go_wp2
    refine bodyPost_ret (v := .agg #[.int .i64 d, .int .i64 s, .slice Tv l.length cv, .int .i64 33024, .string x]) ?_ rfl ⟨d, s, _, l, 33024, x, rfl, ?_, by omega, by omega, ?_, ?_⟩
    · simp [results, Try.results47, go_sem, r0, r1, r2, r3, r4]
    · iterate 5 (refine ownsRow_setCell_other ?_ hnR _)
      iterate 1 (refine ownsRow_setCell_other ?_ hnG _)
      exact ho1
    · refine hd3.kept ?_
      exact ((((((Below.refl (b + 1) _).setCell (by simp; omega) _).setCell (by simp; omega) _).setCell (by simp; omega) _).setCell (by simp; omega) _).setCell (by simp; omega) _).setCell (by simp; omega) _
    · refine hB1.trans ?_
      exact ((((((Below.refl b _).setCell (by simp; omega) _).setCell (by simp; omega) _).setCell (by simp; omega) _).setCell (by simp; omega) _).setCell (by simp; omega) _).setCell (by simp; omega) _
  · have g2 := hG.cell 2 _ rfl
    have gf := hG.frozen
    have gl := hG.lt
    go_wp2_with fail
    go_region_law (first
      | (refine step_append_g rfl _ _ rfl B0 _ _ rfl ho6 tg rfl (by omega) hs6 ?_; intro va w7 hoa hba' hfb; have hG7 := hfb _ _ hG6; have hR7 := hfb _ _ hR6; have hd7 := hd6.kept (hba'.mono (by omega)); have hB7 := hB6.trans (hba'.mono (by omega)); have hs7 : w.heap.size + 2 ≤ w7.heap.size := Nat.le_trans hs6' hba'.size; obtain ⟨Tw, cw, rfl⟩ := hoa.form; have HOA : Hid (ownI w7 B0 (.slice Tw (l ++ [tg]).length cw) (l ++ [tg])) := hoa; have t2 := hG7.cell 2 _ rfl; have v2 := hG7.frozen 2; clear hoa hba' hfb)
      | (go_simp; go_at_call 49; refine (r_off b C len cap _ _ _ (by omega) (by omega) (by omega) (by omega) hd3.drew).mono ?_; rintro e w6 ⟨tg, rfl, _, _, hd6, hOx⟩; have hG6 := hG.drew.only hOx hneG; have hR6 := hR.drew.only hOx hneR; have ho6 := ownI.by ho1.drew hOx hb; have hB6 := hB1.drew.trans (hOx.below (Nat.le_refl _) (by show b ≤ w3.heap.size; omega)); have hs6' := Nat.le_trans hs3 hOx.size; have hs6 : B0 ≤ w6.heap.size := (by omega); clear hOx; have o2 := hG6.cell 2 _ rfl; have o9 := hG6.lt))
    all_goals
      have hlq : (l ++ [tg]).length = l.length + 1 := by simp
      have HOB := HOA.out
      rw [hlq] at HOB
      have HOC : Hid (ownI w7 B0 (.slice Tw (l.length + 1) cw) (l ++ [tg])) := HOB
      have hnG := own_ne HOB hG7
      have hnR := own_ne HOB hR7
      clear HOA HOB hlq hG hR ho1 hB1 g2 gf gl hd3 hs3 t2 v2
      have hG := hG7
      have hR := hR7
      have hB1 := hB7
      have hd3 := hd7
      have g0 := hG.cell 0 _ rfl
      have g1 := hG.cell 1 _ rfl
      have g2 := hG.cell 2 _ rfl
      have g3 := hG.cell 3 _ rfl
      have g4 := hG.cell 4 _ rfl
      have gf := hG.frozen
      have r0 := hR.cell 0 _ rfl
      have r1 := hR.cell 1 _ rfl
      have r2 := hR.cell 2 _ rfl
      have r3 := hR.cell 3 _ rfl
      have r4 := hR.cell 4 _ rfl
      have rf := hR.frozen
      have gl := hG.lt
      have rl := hR.lt
      go_wp2
      refine bodyPost_ret (v := .agg #[.int .i64 d, .int .i64 s, .slice Tw (l.length + 1) cw, .int .i64 t, .string x]) ?_ rfl ⟨d, s, _, (l ++ [tg]), t, x, rfl, ?_, by simp, hx, ?_, ?_⟩
      · simp [results, Try.results47, go_sem, r0, r1, r2, r3, r4]
      · iterate 5 (refine ownsRow_setCell_other ?_ hnR _)
        iterate 1 (refine ownsRow_setCell_other ?_ hnG _)
        exact HOC.out
      · refine hd3.kept ?_
        exact ((((((Below.refl (b + 1) _).setCell (by simp; omega) _).setCell (by simp; omega) _).setCell (by simp; omega) _).setCell (by simp; omega) _).setCell (by simp; omega) _).setCell (by simp; omega) _
      · refine hB1.trans ?_
        exact ((((((Below.refl b _).setCell (by simp; omega) _).setCell (by simp; omega) _).setCell (by simp; omega) _).setCell (by simp; omega) _).setCell (by simp; omega) _).setCell (by simp; omega) _
  · have gq := hG.cell 4 _ rfl
    go_wp2_with fail
    clear gq
    refine (r_below b C len cap _ _ (by omega) hd3).mono ?_
    rintro e w4 ⟨q, rfl, hq0, hq1, hd4, hOx⟩
    clear hd3
    have hd3 := hd4
    clear hd4
    obtain ⟨M, rfl⟩ := Int.eq_ofNat_of_zero_le hq0
    replace hG := hG.only hOx hneG
    replace hR := hR.only hOx hneR
    replace ho1 := ownI.by ho1 hOx hb
    replace hB1 := hB1.trans (hOx.below (Nat.le_refl _) (by omega))
    replace hs3 := Nat.le_trans hs3 hOx.size
    clear hOx
    go_wp2_with (at_make; refine wpList_make_bytes rfl _ _ rfl _ _ _ _ (1499 + M) rfl rfl (by omega) (by omega) (by omega) ?_; intro w8 hownB hbC; have hrl : (List.replicate (1499 + M) (0 : UInt8)).length ≤ 65600 := (by rw [List.length_replicate]; omega); generalize List.replicate (1499 + M) (0 : UInt8) = rr at hownB hrl; replace hG := hG.below hbC; replace hR := hR.below hbC; replace ho1 := ho1.far hbC; replace hd3 := hd3.kept (hbC.mono (by omega)); replace hB1 := hB1.trans (hbC.mono (by omega)); have hstr := run_string_own hownB; have g0 := hG.cell 0 _ rfl; have g1 := hG.cell 1 _ rfl; have g2 := hG.cell 2 _ rfl; have g3 := hG.cell 3 _ rfl; have g4 := hG.cell 4 _ rfl; have gf := hG.frozen; have r0 := hR.cell 0 _ rfl; have r1 := hR.cell 1 _ rfl; have r2 := hR.cell 2 _ rfl; have r3 := hR.cell 3 _ rfl; have r4 := hR.cell 4 _ rfl; have rf := hR.frozen; have gl := hG.lt; have rl := hR.lt; have hnG := own_ne ho1 hG; have hnR := own_ne ho1 hR)
    refine bodyPost_ret (v := .agg #[.int .i64 d, .int .i64 s, .slice Tv l.length cv, .int .i64 t, .string (str rr)]) ?_ rfl ⟨d, s, _, l, t, (str rr), rfl, ?_, by omega, by rw [str_size]; exact hrl, ?_, ?_⟩
    · simp [results, Try.results47, go_sem, r0, r1, r2, r3, r4]
    · iterate 5 (refine ownsRow_setCell_other ?_ hnR _)
      iterate 1 (refine ownsRow_setCell_other ?_ hnG _)
      exact ho1
    · refine hd3.kept ?_
      exact ((((((Below.refl (b + 1) _).setCell (by simp; omega) _).setCell (by simp; omega) _).setCell (by simp; omega) _).setCell (by simp; omega) _).setCell (by simp; omega) _).setCell (by simp; omega) _
    · refine hB1.trans ?_
      exact ((((((Below.refl b _).setCell (by simp; omega) _).setCell (by simp; omega) _).setCell (by simp; omega) _).setCell (by simp; omega) _).setCell (by simp; omega) _).setCell (by simp; omega) _
  · have y0 : (y == 0) = false := by simp; omega
    have y1 : (y == 1) = false := by simp; omega
    have y2 : (y == 2) = false := by simp; omega
    have y3 : (y == 3) = false := by simp; omega
    have y4 : (y == 4) = false := by simp; omega
    have g0 := hG.cell 0 _ rfl
    have g1 := hG.cell 1 _ rfl
    have g2 := hG.cell 2 _ rfl
    have g3 := hG.cell 3 _ rfl
    have g4 := hG.cell 4 _ rfl
    have gf := hG.frozen
    have r0 := hR.cell 0 _ rfl
    have r1 := hR.cell 1 _ rfl
    have r2 := hR.cell 2 _ rfl
    have r3 := hR.cell 3 _ rfl
    have r4 := hR.cell 4 _ rfl
    have rf := hR.frozen
    have gl := hG.lt
    have rl := hR.lt
    have hnG := own_ne ho1 hG
    have hnR := own_ne ho1 hR
    go_wp2
    refine bodyPost_ret (v := .agg #[.int .i64 d, .int .i64 s, .slice Tv l.length cv, .int .i64 t, .string x]) ?_ rfl ⟨d, s, _, l, t, x, rfl, ?_, by omega, by omega, ?_, ?_⟩
    · simp [results, Try.results47, go_sem, r0, r1, r2, r3, r4]
    · iterate 5 (refine ownsRow_setCell_other ?_ hnR _)
      exact ho1
    · refine hd3.kept ?_
      exact (((((Below.refl (b + 1) _).setCell (by simp; omega) _).setCell (by simp; omega) _).setCell (by simp; omega) _).setCell (by simp; omega) _).setCell (by simp; omega) _
    · refine hB1.trans ?_
      exact (((((Below.refl b _).setCell (by simp; omega) _).setCell (by simp; omega) _).setCell (by simp; omega) _).setCell (by simp; omega) _).setCell (by simp; omega) _
end Go.Proofs.Ytlpapncgcgllfaa
