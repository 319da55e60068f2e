/-
  What the program puts into a table of the rule Prefix, and drops.
-/
import Derived.Test.YtgcingjcneafpaaTabJPrefix
namespace Go.Proofs.Ytgcingjcneafpaa
open Go.RowKit Go.PlainAid
def pfPutC (l : List PfV) (r : PfV) : Int := if !(pfTab l && pfOk r) then 1 else if there pfLt (⟨0, 0, 0⟩ : PfV) l r then 0 else if l.length = 32 then 2 else 0
def pfPutR (l : List PfV) (r : PfV) : List PfV := if pfPutC l r = 0 then putL pfLt (⟨0, 0, 0⟩ : PfV) l r else []
set_option maxRecDepth 100000 in
set_option maxHeartbeats 3200000 in
theorem i_pfPut (g off c : Nat) (l : List PfV) (r : PfV) (w : World) (h : IntsAt w (some ⟨g, off, none⟩) (pfF l)) (hc : l.length ≤ c) (hl : l.length ≤ 1048576) :
    Calls Try.prog 41 #[.slice (some ⟨g, off, none⟩) l.length c, .agg (pfL r)] w fun e w' => ∃ v, e = .returned (.tuple #[v, .int .i64 (pfPutC l r)]) ∧ ownR w' w.heap.size 70 3 v (pfPutR l r).length (pfF (pfPutR l r)) ∧ Below w.heap.size w w' := by
  have hW0 : Below w.heap.size w (w.alloc (.cells (pfL r) 70)) := (Below.refl _ w).alloc (Nat.le_refl _) _
  have hz0 : w.heap.size < (w.alloc (.cells (pfL r) 70)).heap.size := by simp
  have hn0 : (w.alloc (.cells (pfL r) 70)).cell? ⟨w.heap.size, 0, none⟩ = some (.int .i64 r.addr) := by simp [pfL]
  have hn1 : (w.alloc (.cells (pfL r) 70)).cell? ⟨w.heap.size, 1, none⟩ = some (.int .i64 r.bits) := by simp [pfL]
  have hn2 : (w.alloc (.cells (pfL r) 70)).cell? ⟨w.heap.size, 2, none⟩ = some (.int .i64 r.act) := by simp [pfL]
  have CT : Hid (∀ u : World, Below w.heap.size w u → Calls Try.prog 58 #[.slice (some ⟨g, off, none⟩) l.length c] u fun e w' => e = .returned (.bool (pfTab l)) ∧ Below u.heap.size u w') := fun u hu => i_pfTab _ _ l u (h.below hu) (by omega)
  have CR : Hid (∀ u : World, Calls Try.prog 112 #[.agg (pfL r)] u fun e w' => e = .returned (.bool (pfOk r)) ∧ Below u.heap.size u w') := fun u => i_pfRight r u
  have CP : Hid (∀ u : World, Below w.heap.size w u → Calls Try.prog 59 #[.slice (some ⟨g, off, none⟩) l.length c, .agg (pfL r)] u fun e w' => e = .returned (.tuple #[.int .i64 ((place pfLt l r : Nat) : Int), .bool (there pfLt (⟨0, 0, 0⟩ : PfV) l r)]) ∧ Below u.heap.size u w') := fun u hu => i_pfPlace _ _ l r u (h.below hu) (by omega)
  have CX : Hid (∀ (t b : Nat) (ti : Int) (u : World), ti = (t : Int) → Below w.heap.size w u → IntsAt u (some ⟨b, 0, none⟩) (pfF [r]) → place pfLt l r ≤ t → t ≤ l.length → Calls Try.prog 60 #[.slice (some ⟨g, off, none⟩) l.length c, .int .i64 ((place pfLt l r : Nat) : Int), .int .i64 ti, .slice (some ⟨b, 0, none⟩) 1 1] u fun e w' => ∃ v, e = .returned v ∧ ownR w' u.heap.size 70 3 v (replL l (place pfLt l r) t [r]).length (pfF (replL l (place pfLt l r) t [r])) ∧ Below u.heap.size u w') := fun t b ti u hti hu hr ht1 ht2 => by subst hti; exact i_pfRepl g off c l _ t _ 1 1 [r] u (h.below hu) hr rfl (by simp) ht1 ht2 hc hl (by simp)
  have hpl := place_le (lt := pfLt) l r
  have HB1 : Hid (there pfLt (⟨0, 0, 0⟩ : PfV) l r = true → place pfLt l r + 1 ≤ l.length ∧ replL l (place pfLt l r) (place pfLt l r + 1) [r] = putL pfLt (⟨0, 0, 0⟩ : PfV) l r) := fun ht => by
    obtain ⟨hp, _⟩ := (there_iff (⟨0, 0, 0⟩ : PfV) l r).1 ht
    refine ⟨hp, ?_⟩
    unfold putL behind; rw [ht]; rfl
  have HB2 : Hid (there pfLt (⟨0, 0, 0⟩ : PfV) l r = false → replL l (place pfLt l r) (place pfLt l r) [r] = putL pfLt (⟨0, 0, 0⟩ : PfV) l r) := fun ht => by
    unfold putL behind; rw [ht]; rfl
  have HCc : Hid (pfPutC l r = if !(pfTab l && pfOk r) then 1 else if there pfLt (⟨0, 0, 0⟩ : PfV) l r then 0 else if l.length = 32 then 2 else 0) := rfl
  have HR0 : Hid (pfPutC l r = 0 → pfPutR l r = putL pfLt (⟨0, 0, 0⟩ : PfV) l r) := fun h => by unfold pfPutR; rw [if_pos h]
  have HR1 : Hid (¬ pfPutC l r = 0 → pfPutR l r = []) := fun h => by unfold pfPutR; rw [if_neg h]
  generalize pfPutC l r = pc at *
  generalize pfPutR l r = pr at *
  simp only [pfL] at hW0 hz0 hn0 hn1 hn2
  have hr1 : pfL r = #[.int .i64 r.addr, .int .i64 r.bits, .int .i64 r.act] := rfl
  rw [hr1]
  cases htab : pfTab l
  · rw [htab] at CT
    have e0 : pc = 1 := by rw [HCc.out, htab]; rfl
    have e1 : pr = [] := HR1.out (by rw [e0]; decide)
    subst e0 e1
    clear HCc HR0 HR1
    go_enter Try.func41, Try.ntmps41
    go_wp2_with (go_at_call 58; refine (CT.out _ hW0).mono ?_; rintro e w1 ⟨rfl, hb1⟩)
    go_ret2
    exact ⟨_, rfl, ownR.nil _ _ _ _, hW0.trans (hb1.mono hW0.size)⟩
  · rw [htab] at CT
    cases hok : pfOk r
    · rw [hok] at CR
      have e0 : pc = 1 := by rw [HCc.out, htab, hok]; rfl
      have e1 : pr = [] := HR1.out (by rw [e0]; decide)
      subst e0 e1
      clear HCc HR0 HR1
      go_enter Try.func41, Try.ntmps41
      go_wp2_with fail
      go_at_call 58
      refine (CT.out _ hW0).mono ?_
      rintro e w1 ⟨rfl, hb1⟩
      have hm0 := (hb1.cell (p := ⟨w.heap.size, 0, none⟩) hz0).trans hn0
      have hm1 := (hb1.cell (p := ⟨w.heap.size, 1, none⟩) hz0).trans hn1
      have hm2 := (hb1.cell (p := ⟨w.heap.size, 2, none⟩) hz0).trans hn2
      go_wp2_with (go_at_call 112; refine (CR.out _).mono ?_; rintro e w2 ⟨rfl, hb2⟩)
      go_ret2
      exact ⟨_, rfl, ownR.nil _ _ _ _, (hW0.trans (hb1.mono hW0.size)).trans (hb2.mono (Nat.le_trans hW0.size hb1.size))⟩
    · rw [hok] at CR
      rw [htab, hok] at HCc
      have hcase : there pfLt (⟨0, 0, 0⟩ : PfV) l r = true ∨ there pfLt (⟨0, 0, 0⟩ : PfV) l r = false ∧ l.length = 32 ∨ there pfLt (⟨0, 0, 0⟩ : PfV) l r = false ∧ ¬ l.length = 32 := by
        cases there pfLt (⟨0, 0, 0⟩ : PfV) l r
        · right
          by_cases h32 : l.length = 32
          · exact .inl ⟨rfl, h32⟩
          · exact .inr ⟨rfl, h32⟩
        · exact .inl rfl
      rcases hcase with hth | ⟨hth, h32⟩ | ⟨hth, h32⟩
      · rw [hth] at CP HCc
        have e0 : pc = 0 := HCc.out
        have e1 := HR0.out e0
        obtain ⟨hp1, hp2⟩ := HB1.out hth
        rw [← hp2] at e1
        subst e0 e1
        clear HCc HR0 HR1 HB1 HB2
        generalize place pfLt l r = pl at *
        go_enter Try.func41, Try.ntmps41
        go_wp2_with fail
        go_at_call 58
        refine (CT.out _ hW0).mono ?_
        rintro e w1 ⟨rfl, hb⟩
        have hB := hW0.trans (hb.mono hW0.size)
        have hz := Nat.lt_of_lt_of_le hz0 hb.size
        have hm0 := (hb.cell (p := ⟨w.heap.size, 0, none⟩) hz0).trans hn0
        have hm1 := (hb.cell (p := ⟨w.heap.size, 1, none⟩) hz0).trans hn1
        have hm2 := (hb.cell (p := ⟨w.heap.size, 2, none⟩) hz0).trans hn2
        clear hb
        go_wp2_with fail
        go_at_call 112
        refine (CR.out _).mono ?_
        rintro e w2 ⟨rfl, hb⟩
        replace hm0 := (hb.cell (p := ⟨w.heap.size, 0, none⟩) hz).trans hm0
        replace hm1 := (hb.cell (p := ⟨w.heap.size, 1, none⟩) hz).trans hm1
        replace hm2 := (hb.cell (p := ⟨w.heap.size, 2, none⟩) hz).trans hm2
        replace hz := Nat.lt_of_lt_of_le hz hb.size
        replace hB := hB.trans (hb.mono hB.size)
        clear hb
        go_wp2_with fail
        go_at_call 59
        refine (CP.out _ hB).mono ?_
        rintro e w3 ⟨rfl, hb⟩
        replace hm0 := (hb.cell (p := ⟨w.heap.size, 0, none⟩) hz).trans hm0
        replace hm1 := (hb.cell (p := ⟨w.heap.size, 1, none⟩) hz).trans hm1
        replace hm2 := (hb.cell (p := ⟨w.heap.size, 2, none⟩) hz).trans hm2
        replace hz := Nat.lt_of_lt_of_le hz hb.size
        replace hB := hB.trans (hb.mono hB.size)
        have hB3 := hB
        clear hb
        go_wp2_with fail
        go_at_call 60
        refine (CX.out (pl + 1) _ _ _ (by omega) (hB.alloc hB.size _) (ints_new w3 70 (pfI r)) (by omega) hp1).mono ?_
        rintro e w4 ⟨v, rfl, ho, hb⟩
        replace hB := (hB.alloc hB.size _).trans (hb.mono (by have := hB.size; simp; omega))
        go_wp2
        go_ret2
        exact ⟨_, rfl, ho.mono (by have := hB3.size; simp; omega), hB⟩
      · rw [hth] at CP HCc
        have e0 : pc = 2 := by rw [HCc.out, h32]; rfl
        have e1 : pr = [] := HR1.out (by rw [e0]; decide)
        subst e0 e1
        have HD : Hid (((l.length : Int) == 32) = true) := by show _ = _; rw [beq_iff_eq]; omega
        clear HCc HR0 HR1 HB1 HB2 CX h32
        generalize place pfLt l r = pl at *
        go_enter Try.func41, Try.ntmps41
        go_wp2_with fail
        go_at_call 58
        refine (CT.out _ hW0).mono ?_
        rintro e w1 ⟨rfl, hb⟩
        have hB := hW0.trans (hb.mono hW0.size)
        have hz := Nat.lt_of_lt_of_le hz0 hb.size
        have hm0 := (hb.cell (p := ⟨w.heap.size, 0, none⟩) hz0).trans hn0
        have hm1 := (hb.cell (p := ⟨w.heap.size, 1, none⟩) hz0).trans hn1
        have hm2 := (hb.cell (p := ⟨w.heap.size, 2, none⟩) hz0).trans hn2
        clear hb
        go_wp2_with fail
        go_at_call 112
        refine (CR.out _).mono ?_
        rintro e w2 ⟨rfl, hb⟩
        replace hm0 := (hb.cell (p := ⟨w.heap.size, 0, none⟩) hz).trans hm0
        replace hm1 := (hb.cell (p := ⟨w.heap.size, 1, none⟩) hz).trans hm1
        replace hm2 := (hb.cell (p := ⟨w.heap.size, 2, none⟩) hz).trans hm2
        replace hz := Nat.lt_of_lt_of_le hz hb.size
        replace hB := hB.trans (hb.mono hB.size)
        clear hb
        go_wp2_with fail
        go_at_call 59
        refine (CP.out _ hB).mono ?_
        rintro e w3 ⟨rfl, hb⟩
        replace hm0 := (hb.cell (p := ⟨w.heap.size, 0, none⟩) hz).trans hm0
        replace hm1 := (hb.cell (p := ⟨w.heap.size, 1, none⟩) hz).trans hm1
        replace hm2 := (hb.cell (p := ⟨w.heap.size, 2, none⟩) hz).trans hm2
        replace hz := Nat.lt_of_lt_of_le hz hb.size
        replace hB := hB.trans (hb.mono hB.size)
        have hB3 := hB
        clear hb
        have hd := HD.out
        go_wp2
        go_ret2
        exact ⟨_, rfl, ownR.nil _ _ _ _, hB⟩
      · rw [hth] at CP HCc
        have e0 : pc = 0 := by rw [HCc.out]; simp [h32]
        have e1 := HR0.out e0
        have hp2 := HB2.out hth
        rw [← hp2] at e1
        subst e0 e1
        have h33 : ¬ ((l.length : Int) = 32) := by omega
        have h34 : ((l.length : Int) == 32) = false := by rw [beq_eq_false_iff_ne]; exact h33
        clear HCc HR0 HR1 HB1 HB2
        generalize place pfLt l r = pl at *
        go_enter Try.func41, Try.ntmps41
        go_wp2_with fail
        go_at_call 58
        refine (CT.out _ hW0).mono ?_
        rintro e w1 ⟨rfl, hb⟩
        have hB := hW0.trans (hb.mono hW0.size)
        have hz := Nat.lt_of_lt_of_le hz0 hb.size
        have hm0 := (hb.cell (p := ⟨w.heap.size, 0, none⟩) hz0).trans hn0
        have hm1 := (hb.cell (p := ⟨w.heap.size, 1, none⟩) hz0).trans hn1
        have hm2 := (hb.cell (p := ⟨w.heap.size, 2, none⟩) hz0).trans hn2
        clear hb
        go_wp2_with fail
        go_at_call 112
        refine (CR.out _).mono ?_
        rintro e w2 ⟨rfl, hb⟩
        replace hm0 := (hb.cell (p := ⟨w.heap.size, 0, none⟩) hz).trans hm0
        replace hm1 := (hb.cell (p := ⟨w.heap.size, 1, none⟩) hz).trans hm1
        replace hm2 := (hb.cell (p := ⟨w.heap.size, 2, none⟩) hz).trans hm2
        replace hz := Nat.lt_of_lt_of_le hz hb.size
        replace hB := hB.trans (hb.mono hB.size)
        clear hb
        go_wp2_with fail
        go_at_call 59
        refine (CP.out _ hB).mono ?_
        rintro e w3 ⟨rfl, hb⟩
        replace hm0 := (hb.cell (p := ⟨w.heap.size, 0, none⟩) hz).trans hm0
        replace hm1 := (hb.cell (p := ⟨w.heap.size, 1, none⟩) hz).trans hm1
        replace hm2 := (hb.cell (p := ⟨w.heap.size, 2, none⟩) hz).trans hm2
        replace hz := Nat.lt_of_lt_of_le hz hb.size
        replace hB := hB.trans (hb.mono hB.size)
        have hB3 := hB
        clear hb
        go_wp2_with fail
        go_at_call 60
        refine (CX.out pl _ _ _ rfl (hB.alloc hB.size _) (ints_new w3 70 (pfI r)) (by omega) hpl).mono ?_
        rintro e w4 ⟨v, rfl, ho, hb⟩
        replace hB := (hB.alloc hB.size _).trans (hb.mono (by have := hB.size; simp; omega))
        go_wp2
        go_ret2
        exact ⟨_, rfl, ho.mono (by have := hB3.size; simp; omega), hB⟩
def pfDropR (l : List PfV) (r : PfV) : List PfV := if pfTab l then dropL pfLt (⟨0, 0, 0⟩ : PfV) l r else []
end Go.Proofs.Ytgcingjcneafpaa
