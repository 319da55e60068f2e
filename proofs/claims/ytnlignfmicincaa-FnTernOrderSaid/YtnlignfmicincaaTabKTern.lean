/-
  What the program puts into a table of the rule Tern, and drops.
-/
import Derived.Test.YtnlignfmicincaaTabJTern
namespace Go.Proofs.Ytnlignfmicincaa
open Go.RowKit Go.PlainAid
def tnPutC (l : List TnV) (r : TnV) : Int := if !(tnTab l && tnOk r) then 1 else if there tnLt (⟨0, 0, 0, 0⟩ : TnV) l r then 0 else if l.length = 32 then 2 else 0
def tnPutR (l : List TnV) (r : TnV) : List TnV := if tnPutC l r = 0 then putL tnLt (⟨0, 0, 0, 0⟩ : TnV) l r else []
set_option maxRecDepth 100000 in
set_option maxHeartbeats 3200000 in
theorem i_tnPut (g off c : Nat) (l : List TnV) (r : TnV) (w : World) (h : IntsAt w (some ⟨g, off, none⟩) (tnF l)) (hc : l.length ≤ c) (hl : l.length ≤ 1048576) :
    Calls Try.prog 47 #[.slice (some ⟨g, off, none⟩) l.length c, .agg (tnL r)] w fun e w' => ∃ v, e = .returned (.tuple #[v, .int .i64 (tnPutC l r)]) ∧ ownR w' w.heap.size 75 4 v (tnPutR l r).length (tnF (tnPutR l r)) ∧ Below w.heap.size w w' := by
  have hW0 : Below w.heap.size w (w.alloc (.cells (tnL r) 75)) := (Below.refl _ w).alloc (Nat.le_refl _) _
  have hz0 : w.heap.size < (w.alloc (.cells (tnL r) 75)).heap.size := by simp
  have hn0 : (w.alloc (.cells (tnL r) 75)).cell? ⟨w.heap.size, 0, none⟩ = some (.int .i64 r.value) := by simp [tnL]
  have hn1 : (w.alloc (.cells (tnL r) 75)).cell? ⟨w.heap.size, 1, none⟩ = some (.int .i64 r.mask) := by simp [tnL]
  have hn2 : (w.alloc (.cells (tnL r) 75)).cell? ⟨w.heap.size, 2, none⟩ = some (.int .i64 r.pri) := by simp [tnL]
  have hn3 : (w.alloc (.cells (tnL r) 75)).cell? ⟨w.heap.size, 3, none⟩ = some (.int .i64 r.act) := by simp [tnL]
  have CT : Hid (∀ u : World, Below w.heap.size w u → Calls Try.prog 62 #[.slice (some ⟨g, off, none⟩) l.length c] u fun e w' => e = .returned (.bool (tnTab l)) ∧ Below u.heap.size u w') := fun u hu => i_tnTab _ _ l u (h.below hu) (by omega)
  have CR : Hid (∀ u : World, Calls Try.prog 88 #[.agg (tnL r)] u fun e w' => e = .returned (.bool (tnOk r)) ∧ Below u.heap.size u w') := fun u => i_tnRight r u
  have CP : Hid (∀ u : World, Below w.heap.size w u → Calls Try.prog 63 #[.slice (some ⟨g, off, none⟩) l.length c, .agg (tnL r)] u fun e w' => e = .returned (.tuple #[.int .i64 ((place tnLt l r : Nat) : Int), .bool (there tnLt (⟨0, 0, 0, 0⟩ : TnV) l r)]) ∧ Below u.heap.size u w') := fun u hu => i_tnPlace _ _ l r u (h.below hu) (by omega)
  have CX : Hid (∀ (t b : Nat) (ti : Int) (u : World), ti = (t : Int) → Below w.heap.size w u → IntsAt u (some ⟨b, 0, none⟩) (tnF [r]) → place tnLt l r ≤ t → t ≤ l.length → Calls Try.prog 64 #[.slice (some ⟨g, off, none⟩) l.length c, .int .i64 ((place tnLt l r : Nat) : Int), .int .i64 ti, .slice (some ⟨b, 0, none⟩) 1 1] u fun e w' => ∃ v, e = .returned v ∧ ownR w' u.heap.size 75 4 v (replL l (place tnLt l r) t [r]).length (tnF (replL l (place tnLt l r) t [r])) ∧ Below u.heap.size u w') := fun t b ti u hti hu hr ht1 ht2 => by subst hti; exact i_tnRepl g off c l _ t _ 1 1 [r] u (h.below hu) hr rfl (by simp) ht1 ht2 hc hl (by simp)
  have hpl := place_le (lt := tnLt) l r
  have HB1 : Hid (there tnLt (⟨0, 0, 0, 0⟩ : TnV) l r = true → place tnLt l r + 1 ≤ l.length ∧ replL l (place tnLt l r) (place tnLt l r + 1) [r] = putL tnLt (⟨0, 0, 0, 0⟩ : TnV) l r) := fun ht => by
    obtain ⟨hp, _⟩ := (there_iff (⟨0, 0, 0, 0⟩ : TnV) l r).1 ht
    refine ⟨hp, ?_⟩
    unfold putL behind; rw [ht]; rfl
  have HB2 : Hid (there tnLt (⟨0, 0, 0, 0⟩ : TnV) l r = false → replL l (place tnLt l r) (place tnLt l r) [r] = putL tnLt (⟨0, 0, 0, 0⟩ : TnV) l r) := fun ht => by
    unfold putL behind; rw [ht]; rfl
  have HCc : Hid (tnPutC l r = if !(tnTab l && tnOk r) then 1 else if there tnLt (⟨0, 0, 0, 0⟩ : TnV) l r then 0 else if l.length = 32 then 2 else 0) := rfl
  have HR0 : Hid (tnPutC l r = 0 → tnPutR l r = putL tnLt (⟨0, 0, 0, 0⟩ : TnV) l r) := fun h => by unfold tnPutR; rw [if_pos h]
  have HR1 : Hid (¬ tnPutC l r = 0 → tnPutR l r = []) := fun h => by unfold tnPutR; rw [if_neg h]
  generalize tnPutC l r = pc at *
  generalize tnPutR l r = pr at *
  simp only [tnL] at hW0 hz0 hn0 hn1 hn2 hn3
  have hr1 : tnL r = #[.int .i64 r.value, .int .i64 r.mask, .int .i64 r.pri, .int .i64 r.act] := rfl
  rw [hr1]
  cases htab : tnTab l
  · rw [htab] at CT
    have e0 : pc = 1 := by rw [HCc.out, htab]; rfl
    have e1 : pr = [] := HR1.out (by rw [e0]; decide)
    subst e0 e1
    clear HCc HR0 HR1
    go_enter Try.func47, Try.ntmps47
    go_wp2_with (go_at_call 62; refine (CT.out _ hW0).mono ?_; rintro e w1 ⟨rfl, hb1⟩)
    go_ret2
    exact ⟨_, rfl, ownR.nil _ _ _ _, hW0.trans (hb1.mono hW0.size)⟩
  · rw [htab] at CT
    cases hok : tnOk r
    · rw [hok] at CR
      have e0 : pc = 1 := by rw [HCc.out, htab, hok]; rfl
      have e1 : pr = [] := HR1.out (by rw [e0]; decide)
      subst e0 e1
      clear HCc HR0 HR1
      go_enter Try.func47, Try.ntmps47
      go_wp2_with fail
      go_at_call 62
      refine (CT.out _ hW0).mono ?_
      rintro e w1 ⟨rfl, hb1⟩
      have hm0 := (hb1.cell (p := ⟨w.heap.size, 0, none⟩) hz0).trans hn0
      have hm1 := (hb1.cell (p := ⟨w.heap.size, 1, none⟩) hz0).trans hn1
      have hm2 := (hb1.cell (p := ⟨w.heap.size, 2, none⟩) hz0).trans hn2
      have hm3 := (hb1.cell (p := ⟨w.heap.size, 3, none⟩) hz0).trans hn3
      go_wp2_with (go_at_call 88; refine (CR.out _).mono ?_; rintro e w2 ⟨rfl, hb2⟩)
      go_ret2
      exact ⟨_, rfl, ownR.nil _ _ _ _, (hW0.trans (hb1.mono hW0.size)).trans (hb2.mono (Nat.le_trans hW0.size hb1.size))⟩
    · rw [hok] at CR
      rw [htab, hok] at HCc
      have hcase : there tnLt (⟨0, 0, 0, 0⟩ : TnV) l r = true ∨ there tnLt (⟨0, 0, 0, 0⟩ : TnV) l r = false ∧ l.length = 32 ∨ there tnLt (⟨0, 0, 0, 0⟩ : TnV) l r = false ∧ ¬ l.length = 32 := by
        cases there tnLt (⟨0, 0, 0, 0⟩ : TnV) l r
        · right
          by_cases h32 : l.length = 32
          · exact .inl ⟨rfl, h32⟩
          · exact .inr ⟨rfl, h32⟩
        · exact .inl rfl
      rcases hcase with hth | ⟨hth, h32⟩ | ⟨hth, h32⟩
      · rw [hth] at CP HCc
        have e0 : pc = 0 := HCc.out
        have e1 := HR0.out e0
        obtain ⟨hp1, hp2⟩ := HB1.out hth
        rw [← hp2] at e1
        subst e0 e1
        clear HCc HR0 HR1 HB1 HB2
        generalize place tnLt l r = pl at *
        go_enter Try.func47, Try.ntmps47
        go_wp2_with fail
        go_at_call 62
        refine (CT.out _ hW0).mono ?_
        rintro e w1 ⟨rfl, hb⟩
        have hB := hW0.trans (hb.mono hW0.size)
        have hz := Nat.lt_of_lt_of_le hz0 hb.size
        have hm0 := (hb.cell (p := ⟨w.heap.size, 0, none⟩) hz0).trans hn0
        have hm1 := (hb.cell (p := ⟨w.heap.size, 1, none⟩) hz0).trans hn1
        have hm2 := (hb.cell (p := ⟨w.heap.size, 2, none⟩) hz0).trans hn2
        have hm3 := (hb.cell (p := ⟨w.heap.size, 3, none⟩) hz0).trans hn3
        clear hb
        go_wp2_with fail
        go_at_call 88
        refine (CR.out _).mono ?_
        rintro e w2 ⟨rfl, hb⟩
        replace hm0 := (hb.cell (p := ⟨w.heap.size, 0, none⟩) hz).trans hm0
        replace hm1 := (hb.cell (p := ⟨w.heap.size, 1, none⟩) hz).trans hm1
        replace hm2 := (hb.cell (p := ⟨w.heap.size, 2, none⟩) hz).trans hm2
        replace hm3 := (hb.cell (p := ⟨w.heap.size, 3, none⟩) hz).trans hm3
        replace hz := Nat.lt_of_lt_of_le hz hb.size
        replace hB := hB.trans (hb.mono hB.size)
        clear hb
        go_wp2_with fail
        go_at_call 63
        refine (CP.out _ hB).mono ?_
        rintro e w3 ⟨rfl, hb⟩
        replace hm0 := (hb.cell (p := ⟨w.heap.size, 0, none⟩) hz).trans hm0
        replace hm1 := (hb.cell (p := ⟨w.heap.size, 1, none⟩) hz).trans hm1
        replace hm2 := (hb.cell (p := ⟨w.heap.size, 2, none⟩) hz).trans hm2
        replace hm3 := (hb.cell (p := ⟨w.heap.size, 3, none⟩) hz).trans hm3
        replace hz := Nat.lt_of_lt_of_le hz hb.size
        replace hB := hB.trans (hb.mono hB.size)
        have hB3 := hB
        clear hb
        go_wp2_with fail
        go_at_call 64
        refine (CX.out (pl + 1) _ _ _ (by omega) (hB.alloc hB.size _) (ints_new w3 75 (tnI r)) (by omega) hp1).mono ?_
        rintro e w4 ⟨v, rfl, ho, hb⟩
        replace hB := (hB.alloc hB.size _).trans (hb.mono (by have := hB.size; simp; omega))
        go_wp2
        go_ret2
        exact ⟨_, rfl, ho.mono (by have := hB3.size; simp; omega), hB⟩
      · rw [hth] at CP HCc
        have e0 : pc = 2 := by rw [HCc.out, h32]; rfl
        have e1 : pr = [] := HR1.out (by rw [e0]; decide)
        subst e0 e1
        have HD : Hid (((l.length : Int) == 32) = true) := by show _ = _; rw [beq_iff_eq]; omega
        clear HCc HR0 HR1 HB1 HB2 CX h32
        generalize place tnLt l r = pl at *
        go_enter Try.func47, Try.ntmps47
        go_wp2_with fail
        go_at_call 62
        refine (CT.out _ hW0).mono ?_
        rintro e w1 ⟨rfl, hb⟩
        have hB := hW0.trans (hb.mono hW0.size)
        have hz := Nat.lt_of_lt_of_le hz0 hb.size
        have hm0 := (hb.cell (p := ⟨w.heap.size, 0, none⟩) hz0).trans hn0
        have hm1 := (hb.cell (p := ⟨w.heap.size, 1, none⟩) hz0).trans hn1
        have hm2 := (hb.cell (p := ⟨w.heap.size, 2, none⟩) hz0).trans hn2
        have hm3 := (hb.cell (p := ⟨w.heap.size, 3, none⟩) hz0).trans hn3
        clear hb
        go_wp2_with fail
        go_at_call 88
        refine (CR.out _).mono ?_
        rintro e w2 ⟨rfl, hb⟩
        replace hm0 := (hb.cell (p := ⟨w.heap.size, 0, none⟩) hz).trans hm0
        replace hm1 := (hb.cell (p := ⟨w.heap.size, 1, none⟩) hz).trans hm1
        replace hm2 := (hb.cell (p := ⟨w.heap.size, 2, none⟩) hz).trans hm2
        replace hm3 := (hb.cell (p := ⟨w.heap.size, 3, none⟩) hz).trans hm3
        replace hz := Nat.lt_of_lt_of_le hz hb.size
        replace hB := hB.trans (hb.mono hB.size)
        clear hb
        go_wp2_with fail
        go_at_call 63
        refine (CP.out _ hB).mono ?_
        rintro e w3 ⟨rfl, hb⟩
        replace hm0 := (hb.cell (p := ⟨w.heap.size, 0, none⟩) hz).trans hm0
        replace hm1 := (hb.cell (p := ⟨w.heap.size, 1, none⟩) hz).trans hm1
        replace hm2 := (hb.cell (p := ⟨w.heap.size, 2, none⟩) hz).trans hm2
        replace hm3 := (hb.cell (p := ⟨w.heap.size, 3, none⟩) hz).trans hm3
        replace hz := Nat.lt_of_lt_of_le hz hb.size
        replace hB := hB.trans (hb.mono hB.size)
        have hB3 := hB
        clear hb
        have hd := HD.out
        go_wp2
        go_ret2
        exact ⟨_, rfl, ownR.nil _ _ _ _, hB⟩
      · rw [hth] at CP HCc
        have e0 : pc = 0 := by rw [HCc.out]; simp [h32]
        have e1 := HR0.out e0
        have hp2 := HB2.out hth
        rw [← hp2] at e1
        subst e0 e1
        have h33 : ¬ ((l.length : Int) = 32) := by omega
        have h34 : ((l.length : Int) == 32) = false := by rw [beq_eq_false_iff_ne]; exact h33
        clear HCc HR0 HR1 HB1 HB2
        generalize place tnLt l r = pl at *
        go_enter Try.func47, Try.ntmps47
        go_wp2_with fail
        go_at_call 62
        refine (CT.out _ hW0).mono ?_
        rintro e w1 ⟨rfl, hb⟩
        have hB := hW0.trans (hb.mono hW0.size)
        have hz := Nat.lt_of_lt_of_le hz0 hb.size
        have hm0 := (hb.cell (p := ⟨w.heap.size, 0, none⟩) hz0).trans hn0
        have hm1 := (hb.cell (p := ⟨w.heap.size, 1, none⟩) hz0).trans hn1
        have hm2 := (hb.cell (p := ⟨w.heap.size, 2, none⟩) hz0).trans hn2
        have hm3 := (hb.cell (p := ⟨w.heap.size, 3, none⟩) hz0).trans hn3
        clear hb
        go_wp2_with fail
        go_at_call 88
        refine (CR.out _).mono ?_
        rintro e w2 ⟨rfl, hb⟩
        replace hm0 := (hb.cell (p := ⟨w.heap.size, 0, none⟩) hz).trans hm0
        replace hm1 := (hb.cell (p := ⟨w.heap.size, 1, none⟩) hz).trans hm1
        replace hm2 := (hb.cell (p := ⟨w.heap.size, 2, none⟩) hz).trans hm2
        replace hm3 := (hb.cell (p := ⟨w.heap.size, 3, none⟩) hz).trans hm3
        replace hz := Nat.lt_of_lt_of_le hz hb.size
        replace hB := hB.trans (hb.mono hB.size)
        clear hb
        go_wp2_with fail
        go_at_call 63
        refine (CP.out _ hB).mono ?_
        rintro e w3 ⟨rfl, hb⟩
        replace hm0 := (hb.cell (p := ⟨w.heap.size, 0, none⟩) hz).trans hm0
        replace hm1 := (hb.cell (p := ⟨w.heap.size, 1, none⟩) hz).trans hm1
        replace hm2 := (hb.cell (p := ⟨w.heap.size, 2, none⟩) hz).trans hm2
        replace hm3 := (hb.cell (p := ⟨w.heap.size, 3, none⟩) hz).trans hm3
        replace hz := Nat.lt_of_lt_of_le hz hb.size
        replace hB := hB.trans (hb.mono hB.size)
        have hB3 := hB
        clear hb
        go_wp2_with fail
        go_at_call 64
        refine (CX.out pl _ _ _ rfl (hB.alloc hB.size _) (ints_new w3 75 (tnI r)) (by omega) hpl).mono ?_
        rintro e w4 ⟨v, rfl, ho, hb⟩
        replace hB := (hB.alloc hB.size _).trans (hb.mono (by have := hB.size; simp; omega))
        go_wp2
        go_ret2
        exact ⟨_, rfl, ho.mono (by have := hB3.size; simp; omega), hB⟩
def tnDropR (l : List TnV) (r : TnV) : List TnV := if tnTab l then dropL tnLt (⟨0, 0, 0, 0⟩ : TnV) l r else []
end Go.Proofs.Ytnlignfmicincaa
