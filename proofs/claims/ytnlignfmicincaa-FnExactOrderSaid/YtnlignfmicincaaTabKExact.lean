/-
  What the program puts into a table of the rule Exact, and drops.
-/
import Derived.Test.YtnlignfmicincaaTabJExact
namespace Go.Proofs.Ytnlignfmicincaa
open Go.RowKit Go.PlainAid
def exPutC (l : List ExV) (r : ExV) : Int := if !(exTab l && exOk r) then 1 else if there exLt (⟨0, 0⟩ : ExV) l r then 0 else if l.length = 32 then 2 else 0
def exPutR (l : List ExV) (r : ExV) : List ExV := if exPutC l r = 0 then putL exLt (⟨0, 0⟩ : ExV) l r else []
set_option maxRecDepth 100000 in
set_option maxHeartbeats 3200000 in
theorem i_exPut (g off c : Nat) (l : List ExV) (r : ExV) (w : World) (h : IntsAt w (some ⟨g, off, none⟩) (exF l)) (hc : l.length ≤ c) (hl : l.length ≤ 1048576) :
    Calls Try.prog 30 #[.slice (some ⟨g, off, none⟩) l.length c, .agg (exL r)] w fun e w' => ∃ v, e = .returned (.tuple #[v, .int .i64 (exPutC l r)]) ∧ ownR w' w.heap.size 52 2 v (exPutR l r).length (exF (exPutR l r)) ∧ Below w.heap.size w w' := by
  have hW0 : Below w.heap.size w (w.alloc (.cells (exL r) 52)) := (Below.refl _ w).alloc (Nat.le_refl _) _
  have hz0 : w.heap.size < (w.alloc (.cells (exL r) 52)).heap.size := by simp
  have hn0 : (w.alloc (.cells (exL r) 52)).cell? ⟨w.heap.size, 0, none⟩ = some (.int .i64 r.key) := by simp [exL]
  have hn1 : (w.alloc (.cells (exL r) 52)).cell? ⟨w.heap.size, 1, none⟩ = some (.int .i64 r.act) := by simp [exL]
  have CT : Hid (∀ u : World, Below w.heap.size w u → Calls Try.prog 51 #[.slice (some ⟨g, off, none⟩) l.length c] u fun e w' => e = .returned (.bool (exTab l)) ∧ Below u.heap.size u w') := fun u hu => i_exTab _ _ l u (h.below hu) (by omega)
  have CR : Hid (∀ u : World, Calls Try.prog 81 #[.agg (exL r)] u fun e w' => e = .returned (.bool (exOk r)) ∧ Below u.heap.size u w') := fun u => i_exRight r u
  have CP : Hid (∀ u : World, Below w.heap.size w u → Calls Try.prog 52 #[.slice (some ⟨g, off, none⟩) l.length c, .agg (exL r)] u fun e w' => e = .returned (.tuple #[.int .i64 ((place exLt l r : Nat) : Int), .bool (there exLt (⟨0, 0⟩ : ExV) l r)]) ∧ Below u.heap.size u w') := fun u hu => i_exPlace _ _ l r u (h.below hu) (by omega)
  have CX : Hid (∀ (t b : Nat) (ti : Int) (u : World), ti = (t : Int) → Below w.heap.size w u → IntsAt u (some ⟨b, 0, none⟩) (exF [r]) → place exLt l r ≤ t → t ≤ l.length → Calls Try.prog 53 #[.slice (some ⟨g, off, none⟩) l.length c, .int .i64 ((place exLt l r : Nat) : Int), .int .i64 ti, .slice (some ⟨b, 0, none⟩) 1 1] u fun e w' => ∃ v, e = .returned v ∧ ownR w' u.heap.size 52 2 v (replL l (place exLt l r) t [r]).length (exF (replL l (place exLt l r) t [r])) ∧ Below u.heap.size u w') := fun t b ti u hti hu hr ht1 ht2 => by subst hti; exact i_exRepl g off c l _ t _ 1 1 [r] u (h.below hu) hr rfl (by simp) ht1 ht2 hc hl (by simp)
  have hpl := place_le (lt := exLt) l r
  have HB1 : Hid (there exLt (⟨0, 0⟩ : ExV) l r = true → place exLt l r + 1 ≤ l.length ∧ replL l (place exLt l r) (place exLt l r + 1) [r] = putL exLt (⟨0, 0⟩ : ExV) l r) := fun ht => by
    obtain ⟨hp, _⟩ := (there_iff (⟨0, 0⟩ : ExV) l r).1 ht
    refine ⟨hp, ?_⟩
    unfold putL behind; rw [ht]; rfl
  have HB2 : Hid (there exLt (⟨0, 0⟩ : ExV) l r = false → replL l (place exLt l r) (place exLt l r) [r] = putL exLt (⟨0, 0⟩ : ExV) l r) := fun ht => by
    unfold putL behind; rw [ht]; rfl
  have HCc : Hid (exPutC l r = if !(exTab l && exOk r) then 1 else if there exLt (⟨0, 0⟩ : ExV) l r then 0 else if l.length = 32 then 2 else 0) := rfl
  have HR0 : Hid (exPutC l r = 0 → exPutR l r = putL exLt (⟨0, 0⟩ : ExV) l r) := fun h => by unfold exPutR; rw [if_pos h]
  have HR1 : Hid (¬ exPutC l r = 0 → exPutR l r = []) := fun h => by unfold exPutR; rw [if_neg h]
  generalize exPutC l r = pc at *
  generalize exPutR l r = pr at *
  simp only [exL] at hW0 hz0 hn0 hn1
  have hr1 : exL r = #[.int .i64 r.key, .int .i64 r.act] := rfl
  rw [hr1]
  cases htab : exTab l
  · rw [htab] at CT
    have e0 : pc = 1 := by rw [HCc.out, htab]; rfl
    have e1 : pr = [] := HR1.out (by rw [e0]; decide)
    subst e0 e1
    clear HCc HR0 HR1
    go_enter Try.func30, Try.ntmps30
    go_wp2_with (go_at_call 51; refine (CT.out _ hW0).mono ?_; rintro e w1 ⟨rfl, hb1⟩)
    go_ret2
    exact ⟨_, rfl, ownR.nil _ _ _ _, hW0.trans (hb1.mono hW0.size)⟩
  · rw [htab] at CT
    cases hok : exOk r
    · rw [hok] at CR
      have e0 : pc = 1 := by rw [HCc.out, htab, hok]; rfl
      have e1 : pr = [] := HR1.out (by rw [e0]; decide)
      subst e0 e1
      clear HCc HR0 HR1
      go_enter Try.func30, Try.ntmps30
      go_wp2_with fail
      go_at_call 51
      refine (CT.out _ hW0).mono ?_
      rintro e w1 ⟨rfl, hb1⟩
      have hm0 := (hb1.cell (p := ⟨w.heap.size, 0, none⟩) hz0).trans hn0
      have hm1 := (hb1.cell (p := ⟨w.heap.size, 1, none⟩) hz0).trans hn1
      go_wp2_with (go_at_call 81; refine (CR.out _).mono ?_; rintro e w2 ⟨rfl, hb2⟩)
      go_ret2
      exact ⟨_, rfl, ownR.nil _ _ _ _, (hW0.trans (hb1.mono hW0.size)).trans (hb2.mono (Nat.le_trans hW0.size hb1.size))⟩
    · rw [hok] at CR
      rw [htab, hok] at HCc
      have hcase : there exLt (⟨0, 0⟩ : ExV) l r = true ∨ there exLt (⟨0, 0⟩ : ExV) l r = false ∧ l.length = 32 ∨ there exLt (⟨0, 0⟩ : ExV) l r = false ∧ ¬ l.length = 32 := by
        cases there exLt (⟨0, 0⟩ : ExV) l r
        · right
          by_cases h32 : l.length = 32
          · exact .inl ⟨rfl, h32⟩
          · exact .inr ⟨rfl, h32⟩
        · exact .inl rfl
      rcases hcase with hth | ⟨hth, h32⟩ | ⟨hth, h32⟩
      · rw [hth] at CP HCc
        have e0 : pc = 0 := HCc.out
        have e1 := HR0.out e0
        obtain ⟨hp1, hp2⟩ := HB1.out hth
        rw [← hp2] at e1
        subst e0 e1
        clear HCc HR0 HR1 HB1 HB2
        generalize place exLt l r = pl at *
        go_enter Try.func30, Try.ntmps30
        go_wp2_with fail
        go_at_call 51
        refine (CT.out _ hW0).mono ?_
        rintro e w1 ⟨rfl, hb⟩
        have hB := hW0.trans (hb.mono hW0.size)
        have hz := Nat.lt_of_lt_of_le hz0 hb.size
        have hm0 := (hb.cell (p := ⟨w.heap.size, 0, none⟩) hz0).trans hn0
        have hm1 := (hb.cell (p := ⟨w.heap.size, 1, none⟩) hz0).trans hn1
        clear hb
        go_wp2_with fail
        go_at_call 81
        refine (CR.out _).mono ?_
        rintro e w2 ⟨rfl, hb⟩
        replace hm0 := (hb.cell (p := ⟨w.heap.size, 0, none⟩) hz).trans hm0
        replace hm1 := (hb.cell (p := ⟨w.heap.size, 1, none⟩) hz).trans hm1
        replace hz := Nat.lt_of_lt_of_le hz hb.size
        replace hB := hB.trans (hb.mono hB.size)
        clear hb
        go_wp2_with fail
        go_at_call 52
        refine (CP.out _ hB).mono ?_
        rintro e w3 ⟨rfl, hb⟩
        replace hm0 := (hb.cell (p := ⟨w.heap.size, 0, none⟩) hz).trans hm0
        replace hm1 := (hb.cell (p := ⟨w.heap.size, 1, none⟩) hz).trans hm1
        replace hz := Nat.lt_of_lt_of_le hz hb.size
        replace hB := hB.trans (hb.mono hB.size)
        have hB3 := hB
        clear hb
        go_wp2_with fail
        go_at_call 53
        refine (CX.out (pl + 1) _ _ _ (by omega) (hB.alloc hB.size _) (ints_new w3 52 (exI r)) (by omega) hp1).mono ?_
        rintro e w4 ⟨v, rfl, ho, hb⟩
        replace hB := (hB.alloc hB.size _).trans (hb.mono (by have := hB.size; simp; omega))
        go_wp2
        go_ret2
        exact ⟨_, rfl, ho.mono (by have := hB3.size; simp; omega), hB⟩
      · rw [hth] at CP HCc
        have e0 : pc = 2 := by rw [HCc.out, h32]; rfl
        have e1 : pr = [] := HR1.out (by rw [e0]; decide)
        subst e0 e1
        have HD : Hid (((l.length : Int) == 32) = true) := by show _ = _; rw [beq_iff_eq]; omega
        clear HCc HR0 HR1 HB1 HB2 CX h32
        generalize place exLt l r = pl at *
        go_enter Try.func30, Try.ntmps30
        go_wp2_with fail
        go_at_call 51
        refine (CT.out _ hW0).mono ?_
        rintro e w1 ⟨rfl, hb⟩
        have hB := hW0.trans (hb.mono hW0.size)
        have hz := Nat.lt_of_lt_of_le hz0 hb.size
        have hm0 := (hb.cell (p := ⟨w.heap.size, 0, none⟩) hz0).trans hn0
        have hm1 := (hb.cell (p := ⟨w.heap.size, 1, none⟩) hz0).trans hn1
        clear hb
        go_wp2_with fail
        go_at_call 81
        refine (CR.out _).mono ?_
        rintro e w2 ⟨rfl, hb⟩
        replace hm0 := (hb.cell (p := ⟨w.heap.size, 0, none⟩) hz).trans hm0
        replace hm1 := (hb.cell (p := ⟨w.heap.size, 1, none⟩) hz).trans hm1
        replace hz := Nat.lt_of_lt_of_le hz hb.size
        replace hB := hB.trans (hb.mono hB.size)
        clear hb
        go_wp2_with fail
        go_at_call 52
        refine (CP.out _ hB).mono ?_
        rintro e w3 ⟨rfl, hb⟩
        replace hm0 := (hb.cell (p := ⟨w.heap.size, 0, none⟩) hz).trans hm0
        replace hm1 := (hb.cell (p := ⟨w.heap.size, 1, none⟩) hz).trans hm1
        replace hz := Nat.lt_of_lt_of_le hz hb.size
        replace hB := hB.trans (hb.mono hB.size)
        have hB3 := hB
        clear hb
        have hd := HD.out
        go_wp2
        go_ret2
        exact ⟨_, rfl, ownR.nil _ _ _ _, hB⟩
      · rw [hth] at CP HCc
        have e0 : pc = 0 := by rw [HCc.out]; simp [h32]
        have e1 := HR0.out e0
        have hp2 := HB2.out hth
        rw [← hp2] at e1
        subst e0 e1
        have h33 : ¬ ((l.length : Int) = 32) := by omega
        have h34 : ((l.length : Int) == 32) = false := by rw [beq_eq_false_iff_ne]; exact h33
        clear HCc HR0 HR1 HB1 HB2
        generalize place exLt l r = pl at *
        go_enter Try.func30, Try.ntmps30
        go_wp2_with fail
        go_at_call 51
        refine (CT.out _ hW0).mono ?_
        rintro e w1 ⟨rfl, hb⟩
        have hB := hW0.trans (hb.mono hW0.size)
        have hz := Nat.lt_of_lt_of_le hz0 hb.size
        have hm0 := (hb.cell (p := ⟨w.heap.size, 0, none⟩) hz0).trans hn0
        have hm1 := (hb.cell (p := ⟨w.heap.size, 1, none⟩) hz0).trans hn1
        clear hb
        go_wp2_with fail
        go_at_call 81
        refine (CR.out _).mono ?_
        rintro e w2 ⟨rfl, hb⟩
        replace hm0 := (hb.cell (p := ⟨w.heap.size, 0, none⟩) hz).trans hm0
        replace hm1 := (hb.cell (p := ⟨w.heap.size, 1, none⟩) hz).trans hm1
        replace hz := Nat.lt_of_lt_of_le hz hb.size
        replace hB := hB.trans (hb.mono hB.size)
        clear hb
        go_wp2_with fail
        go_at_call 52
        refine (CP.out _ hB).mono ?_
        rintro e w3 ⟨rfl, hb⟩
        replace hm0 := (hb.cell (p := ⟨w.heap.size, 0, none⟩) hz).trans hm0
        replace hm1 := (hb.cell (p := ⟨w.heap.size, 1, none⟩) hz).trans hm1
        replace hz := Nat.lt_of_lt_of_le hz hb.size
        replace hB := hB.trans (hb.mono hB.size)
        have hB3 := hB
        clear hb
        go_wp2_with fail
        go_at_call 53
        refine (CX.out pl _ _ _ rfl (hB.alloc hB.size _) (ints_new w3 52 (exI r)) (by omega) hpl).mono ?_
        rintro e w4 ⟨v, rfl, ho, hb⟩
        replace hB := (hB.alloc hB.size _).trans (hb.mono (by have := hB.size; simp; omega))
        go_wp2
        go_ret2
        exact ⟨_, rfl, ho.mono (by have := hB3.size; simp; omega), hB⟩
def exDropR (l : List ExV) (r : ExV) : List ExV := if exTab l then dropL exLt (⟨0, 0⟩ : ExV) l r else []
set_option maxRecDepth 100000 in
set_option maxHeartbeats 3200000 in
theorem i_exDrop (g off c : Nat) (l : List ExV) (r : ExV) (w : World) (h : IntsAt w (some ⟨g, off, none⟩) (exF l)) (hc : l.length ≤ c) (hl : l.length ≤ 1048576) :
    Calls Try.prog 28 #[.slice (some ⟨g, off, none⟩) l.length c, .agg (exL r)] w fun e w' => ∃ v, e = .returned v ∧ ownR w' w.heap.size 52 2 v (exDropR l r).length (exF (exDropR l r)) ∧ Below w.heap.size w w' := by
  have hW0 : Below w.heap.size w (w.alloc (.cells (exL r) 52)) := (Below.refl _ w).alloc (Nat.le_refl _) _
  have hz0 : w.heap.size < (w.alloc (.cells (exL r) 52)).heap.size := by simp
  have hn0 : (w.alloc (.cells (exL r) 52)).cell? ⟨w.heap.size, 0, none⟩ = some (.int .i64 r.key) := by simp [exL]
  have hn1 : (w.alloc (.cells (exL r) 52)).cell? ⟨w.heap.size, 1, none⟩ = some (.int .i64 r.act) := by simp [exL]
  have CT : Hid (∀ u : World, Below w.heap.size w u → Calls Try.prog 51 #[.slice (some ⟨g, off, none⟩) l.length c] u fun e w' => e = .returned (.bool (exTab l)) ∧ Below u.heap.size u w') := fun u hu => i_exTab _ _ l u (h.below hu) (by omega)
  have CP : Hid (∀ u : World, Below w.heap.size w u → Calls Try.prog 52 #[.slice (some ⟨g, off, none⟩) l.length c, .agg (exL r)] u fun e w' => e = .returned (.tuple #[.int .i64 ((place exLt l r : Nat) : Int), .bool (there exLt (⟨0, 0⟩ : ExV) l r)]) ∧ Below u.heap.size u w') := fun u hu => i_exPlace _ _ l r u (h.below hu) (by omega)
  have CX : Hid (∀ (t : Nat) (ti : Int) (u : World), ti = (t : Int) → Below w.heap.size w u → place exLt l r ≤ t → t ≤ l.length → Calls Try.prog 53 #[.slice (some ⟨g, off, none⟩) l.length c, .int .i64 ((place exLt l r : Nat) : Int), .int .i64 ti, .slice none 0 0] u fun e w' => ∃ v, e = .returned v ∧ ownR w' u.heap.size 52 2 v (replL l (place exLt l r) t []).length (exF (replL l (place exLt l r) t [])) ∧ Below u.heap.size u w') := fun t ti u hti hu ht1 ht2 => by subst hti; exact i_exRepl g off c l _ t _ 0 0 [] u (h.below hu) (.inl rfl) rfl (fun _ => ⟨rfl, rfl⟩) ht1 ht2 hc hl (by simp)
  have hpl := place_le (lt := exLt) l r
  have HB1 : Hid (there exLt (⟨0, 0⟩ : ExV) l r = true → place exLt l r + 1 ≤ l.length ∧ replL l (place exLt l r) (place exLt l r + 1) [] = dropL exLt (⟨0, 0⟩ : ExV) l r) := fun ht => by
    obtain ⟨hp, _⟩ := (there_iff (⟨0, 0⟩ : ExV) l r).1 ht
    refine ⟨hp, ?_⟩
    unfold dropL behind; rw [ht]; rfl
  have HB2 : Hid (there exLt (⟨0, 0⟩ : ExV) l r = false → replL l (place exLt l r) (place exLt l r) [] = dropL exLt (⟨0, 0⟩ : ExV) l r) := fun ht => by
    unfold dropL behind; rw [ht]; rfl
  have HR0 : Hid (exTab l = true → exDropR l r = dropL exLt (⟨0, 0⟩ : ExV) l r) := fun h => by unfold exDropR; rw [if_pos h]
  have HR1 : Hid (exTab l = false → exDropR l r = []) := fun h => by unfold exDropR; rw [h]; rfl
  generalize exDropR l r = pr at *
  simp only [exL] at hW0 hz0 hn0 hn1
  have hr1 : exL r = #[.int .i64 r.key, .int .i64 r.act] := rfl
  rw [hr1]
  cases htab : exTab l
  · have e1 := HR1.out htab
    rw [htab] at CT
    subst e1
    clear HR0 HR1
    go_enter Try.func28, Try.ntmps28
    go_wp2_with (go_at_call 51; refine (CT.out _ hW0).mono ?_; rintro e w1 ⟨rfl, hb1⟩)
    go_ret
    exact ⟨_, rfl, ownR.nil _ _ _ _, hW0.trans (hb1.mono hW0.size)⟩
  · have e1 := HR0.out htab
    rw [htab] at CT
    cases hth : there exLt (⟨0, 0⟩ : ExV) l r
    · rw [hth] at CP
      rw [← HB2.out hth] at e1
      subst e1
      clear HR0 HR1 HB1 HB2
      generalize place exLt l r = pl at *
      go_enter Try.func28, Try.ntmps28
      go_wp2_with fail
      go_at_call 51
      refine (CT.out _ hW0).mono ?_
      rintro e w1 ⟨rfl, hb⟩
      have hB := hW0.trans (hb.mono hW0.size)
      have hz := Nat.lt_of_lt_of_le hz0 hb.size
      have hm0 := (hb.cell (p := ⟨w.heap.size, 0, none⟩) hz0).trans hn0
      have hm1 := (hb.cell (p := ⟨w.heap.size, 1, none⟩) hz0).trans hn1
      clear hb
      go_wp2_with fail
      go_at_call 52
      refine (CP.out _ hB).mono ?_
      rintro e w3 ⟨rfl, hb⟩
      replace hB := hB.trans (hb.mono hB.size)
      clear hb
      go_wp2_with fail
      go_at_call 53
      refine (CX.out pl _ _ rfl hB (by omega) hpl).mono ?_
      rintro e w4 ⟨v, rfl, ho, hb⟩
      replace ho := ho.mono hB.size
      replace hB := hB.trans (hb.mono hB.size)
      go_wp2
      go_ret
      exact ⟨_, rfl, ho, hB⟩
    · rw [hth] at CP
      obtain ⟨hp1, hp2⟩ := HB1.out hth
      rw [← hp2] at e1
      subst e1
      clear HR0 HR1 HB1 HB2
      generalize place exLt l r = pl at *
      go_enter Try.func28, Try.ntmps28
      go_wp2_with fail
      go_at_call 51
      refine (CT.out _ hW0).mono ?_
      rintro e w1 ⟨rfl, hb⟩
      have hB := hW0.trans (hb.mono hW0.size)
      have hz := Nat.lt_of_lt_of_le hz0 hb.size
      have hm0 := (hb.cell (p := ⟨w.heap.size, 0, none⟩) hz0).trans hn0
      have hm1 := (hb.cell (p := ⟨w.heap.size, 1, none⟩) hz0).trans hn1
      clear hb
      go_wp2_with fail
      go_at_call 52
      refine (CP.out _ hB).mono ?_
      rintro e w3 ⟨rfl, hb⟩
      replace hB := hB.trans (hb.mono hB.size)
      clear hb
      go_wp2_with fail
      go_at_call 53
      refine (CX.out (pl + 1) _ _ (by omega) hB (by omega) hp1).mono ?_
      rintro e w4 ⟨v, rfl, ho, hb⟩
      replace ho := ho.mono hB.size
      replace hB := hB.trans (hb.mono hB.size)
      go_wp2
      go_ret
      exact ⟨_, rfl, ho, hB⟩
end Go.Proofs.Ytnlignfmicincaa
