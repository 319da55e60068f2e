/-
  Labels that are pushed, by program and model.
-/
import Derived.Test.YtlnhiaapjphefaaLabs1
namespace Go.Proofs.Ytlnhiaapjphefaa
open Go.RowKit Go.PlainAid
def puB (l : List LbV) (a : LbV) : Bool := lbsB l && lbOk a && !decide (l.length = 4)
def puR (l : List LbV) (a : LbV) : List LbV := if puB l a then a :: l else []
theorem puB_spec (l : List LbV) (a : LbV) : puB l a = (lbsB l && lbsB (a :: l)) := by
  unfold puB
  cases h : lbsB l
  · rfl
  · have hl := lbsB_len h
    have ha : lbAll l = true := by unfold lbsB at h; rw [Bool.and_eq_true] at h; exact h.2
    unfold lbsB
    rw [lbAll_cons, ha]
    by_cases h4 : l.length = 4
    · have e : inB (((a :: l).length : Nat) : Int) 1 4 = false := by unfold inB; simp; omega
      rw [e, decide_eq_true h4]; simp
    · have e : inB (((a :: l).length : Nat) : Int) 1 4 = true := inB_true (by simp; omega) (by simp; omega)
      rw [e, decide_eq_false h4]; simp
theorem puR_len (l : List LbV) (a : LbV) : (puR l a).length ≤ l.length + 1 := by unfold puR; split <;> simp
theorem lbF_cons (a : LbV) (l : List LbV) : lbF (a :: l) = [a.label, a.tc, a.ttl] ++ lbF l := rfl
theorem own_one (w : World) (B : Nat) (x y z : Int) (h : B ≤ w.heap.size) : ownR (w.alloc (.cells #[.int .i64 x, .int .i64 y, .int .i64 z] 55)) B 55 3 (.slice (some ⟨w.heap.size, 0, none⟩) 1 1) 1 [x, y, z] :=
  World.ownsRow_lit w #[.int .i64 x, .int .i64 y, .int .i64 z] 1 h (by decide) rfl
set_option maxRecDepth 100000 in
set_option maxHeartbeats 1600000 in
theorem i_Pushed (g off c : Nat) (l : List LbV) (a : LbV) (w : World) (h : IntsAt w (some ⟨g, off, none⟩) (lbF l)) (hl : l.length ≤ 1048576) :
    Calls Try.prog 40 #[.slice (some ⟨g, off, none⟩) l.length c, .agg (lbL a)] w fun e w' => ∃ v, e = .returned (.tuple #[v, .bool (puB l a)]) ∧ ownR w' w.heap.size 55 3 v (puR l a).length (lbF (puR l a)) ∧ Below w.heap.size w w' := by
  have CA : Hid (∀ u : World, Below w.heap.size w u → Calls Try.prog 72 #[.slice (some ⟨g, off, none⟩) l.length c] u fun e w' => e = .returned (.bool (lbsB l)) ∧ Below u.heap.size u w') := fun u hu => i_areLabels _ c l u (h.below hu) (by omega)
  have CL : Hid (∀ u : World, Calls Try.prog 73 #[.agg (lbL a)] u fun e w' => e = .returned (.bool (lbOk a)) ∧ Below u.heap.size u w') := fun u => i_isLabel a u
  have HK : Hid (puB l a = (lbsB l && lbOk a && !decide (l.length = 4))) := rfl
  have HR : Hid (puR l a = if puB l a then a :: l else []) := rfl
  have HC : Hid (lbF (a :: l) = [a.label, a.tc, a.ttl] ++ lbF l) := rfl
  generalize puR l a = pr at *
  generalize puB l a = pb at *
  have hW0 : Below w.heap.size w (w.alloc (.cells (lbL a) 55)) := (Below.refl _ w).alloc (Nat.le_refl _) _
  have hA : Bxl (w.alloc (.cells (lbL a) 55)) w.heap.size a := Bxl.new w a
  obtain ⟨x, y, z⟩ := a
  simp only [lbL] at *
  cases h0 : lbsB l
  · rw [h0] at CA HK
    rw [HK.out, Bool.false_and, Bool.false_and] at HR
    have e1 := HK.out
    simp at e1
    subst e1
    go_enter Try.func40, Try.ntmps40
    go_wp2_with (go_at_call 72; refine (CA.out _ hW0).mono ?_; rintro e w1 ⟨rfl, hb1⟩)
    go_ret2
    exact ⟨_, rfl, by rw [HR.out]; exact ownR.nil _ _ _ _, hW0.trans (hb1.mono hW0.size)⟩
  · rw [h0] at CA HK
    go_enter Try.func40, Try.ntmps40
    go_wp2_with fail
    go_at_call 72
    refine (CA.out _ hW0).mono ?_
    rintro e w1 ⟨rfl, hb1⟩
    replace hA := hA.below hb1
    replace hB := hW0.trans (hb1.mono hW0.size)
    clear hb1 hW0
    have x0 := hA.2.1
    have x1 := hA.2.2.1
    have x2 := hA.2.2.2
    cases h1 : lbOk ⟨x, y, z⟩
    · rw [h1] at CL HK
      have e1 := HK.out
      simp at e1
      subst e1
      go_wp2_with (go_at_call 73; refine (CL.out _).mono ?_; rintro e w2 ⟨rfl, hb2⟩)
      go_ret2
      exact ⟨_, rfl, by rw [HR.out]; exact ownR.nil _ _ _ _, hB.trans (hb2.mono hB.size)⟩
    · rw [h1] at CL HK
      go_wp2_with fail
      go_at_call 73
      refine (CL.out _).mono ?_
      rintro e w2 ⟨rfl, hb2⟩
      replace hA := hA.below hb2
      replace hB := hB.trans (hb2.mono hB.size)
      clear hb2 x0 x1 x2
      have x0 := hA.2.1
      have x1 := hA.2.2.1
      have x2 := hA.2.2.2
      by_cases h4 : l.length = 4
      · rw [decide_eq_true h4] at HK
        have e1 := HK.out
        simp at e1
        subst e1
        have h4b : ((l.length : Int) == 4) = true := by simp; omega
        clear h4
        go_wp2
        go_ret2
        exact ⟨_, rfl, by rw [HR.out]; exact ownR.nil _ _ _ _, hB⟩
      · rw [decide_eq_false h4] at HK
        have e1 := HK.out
        simp at e1
        subst e1
        have h4b : ((l.length : Int) == 4) = false := by simp; omega
        have hsrc := (h.below hB).below ((Below.refl w2.heap.size w2).alloc (Nat.le_refl _) (.cells #[.int .i64 x, .int .i64 y, .int .i64 z] 55))
        go_wp2_with (at_builtin; refine wpList_append_recs Try.infLabel rfl _ _ rfl w.heap.size _ _ _ rfl (own_one w2 w.heap.size x y z hB.size) _ l.length c (lbF l) rfl (by simp) (lbF_len l) hsrc (by omega) (by have := hB.size; simp; omega) ?_; intro v' w3 ho3 hb3)
        go_ret2
        refine ⟨_, rfl, ?_, (hB.alloc hB.size _).trans hb3⟩
        have e2 : pr = ⟨x, y, z⟩ :: l := by rw [HR.out]; simp
        rw [e2, List.length_cons, Nat.add_comm, lbF_cons]; exact ho3
set_option maxRecDepth 100000 in
set_option maxHeartbeats 1600000 in
theorem s_Pushed (g off c : Nat) (l : List LbV) (a : LbV) (w : World) (h : IntsAt w (some ⟨g, off, none⟩) (lbF l)) (hl : l.length ≤ 1048576) :
    Calls Try.prog 41 #[.slice (some ⟨g, off, none⟩) l.length c, .agg (lbL a)] w fun e w' => ∃ v, e = .returned (.tuple #[v, .bool (puB l a)]) ∧ ownR w' w.heap.size 55 3 v (puR l a).length (lbF (puR l a)) ∧ Below w.heap.size w w' := by
  have CA : Hid (∀ u : World, Below w.heap.size w u → Calls Try.prog 74 #[.slice (some ⟨g, off, none⟩) l.length c] u fun e w' => e = .returned (.bool (lbsB l)) ∧ Below u.heap.size u w') := fun u hu => s_Labels _ c l u (h.below hu) (by omega)
  have CO : Hid (∀ (T : Option Addr) (cc : Nat) (u : World), IntsAt u T (lbF (a :: l)) → Calls Try.prog 74 #[.slice T (a :: l).length cc] u fun e w' => e = .returned (.bool (lbsB (a :: l))) ∧ Below u.heap.size u w') := fun T cc u hu => s_Labels T cc (a :: l) u hu (by simp; omega)
  have HK : Hid (puB l a = (lbsB l && lbsB (a :: l))) := puB_spec l a
  have HR : Hid (puR l a = if puB l a then a :: l else []) := rfl
  generalize puR l a = pr at *
  generalize puB l a = pb at *
  have hW0 : Below w.heap.size w (w.alloc (.cells (lbL a) 55)) := (Below.refl _ w).alloc (Nat.le_refl _) _
  have hA : Bxl (w.alloc (.cells (lbL a) 55)) w.heap.size a := Bxl.new w a
  have hlen : (a :: l).length = 1 + l.length := by simp; omega
  have hfl : lbF (a :: l) = [a.label, a.tc, a.ttl] ++ lbF l := rfl
  obtain ⟨x, y, z⟩ := a
  simp only [lbL] at *
  rw [hlen, hfl] at CO
  go_enter Try.func41, Try.ntmps41
  have HFL : Hid (lbF (⟨x, y, z⟩ :: l) = [x, y, z] ++ lbF l) := hfl
  clear hfl
  generalize (⟨x, y, z⟩ : LbV) :: l = al at *
  have x0 := hA.2.1
  have x1 := hA.2.2.1
  have x2 := hA.2.2.2
  have hsrc := (h.below hW0).below ((Below.refl (w.alloc (.cells #[.int .i64 x, .int .i64 y, .int .i64 z] 55)).heap.size (w.alloc (.cells #[.int .i64 x, .int .i64 y, .int .i64 z] 55))).alloc (Nat.le_refl _) (.cells #[.int .i64 x, .int .i64 y, .int .i64 z] 55))
  have hown := own_one (w.alloc (.cells #[.int .i64 x, .int .i64 y, .int .i64 z] 55)) w.heap.size x y z hW0.size
  have hB0 := hW0.alloc hW0.size (.cells #[.int .i64 x, .int .i64 y, .int .i64 z] 55)
  have hsz : (w.alloc (.cells #[.int .i64 x, .int .i64 y, .int .i64 z] 55)).heap.size = w.heap.size + 1 := by simp
  rw [hsz] at hown
  go_wp2_with (at_builtin; refine wpList_append_recs Try.infLabel rfl _ _ rfl w.heap.size _ _ _ rfl hown _ l.length c (lbF l) rfl (by simp) (lbF_len l) hsrc (by omega) (by simp; omega) ?_; intro v' w3 ho3 hb3)
  obtain ⟨T3, c3, rfl⟩ := ho3.form
  have hB := hB0.trans hb3
  clear hb3 hB0 hown hsrc x0 x1 x2
  cases h0 : lbsB l
  · rw [h0] at CA HK
    have e1 := HK.out
    simp at e1
    subst e1
    go_wp2_with (go_at_call 74; refine (CA.out _ hB).mono ?_; rintro e w4 ⟨rfl, hb4⟩)
    go_ret2
    exact ⟨_, rfl, by rw [HR.out]; exact ownR.nil _ _ _ _, hB.trans (hb4.mono hB.size)⟩
  · rw [h0] at CA HK
    go_wp2_with fail
    go_at_call 74
    refine (CA.out _ hB).mono ?_
    rintro e w4 ⟨rfl, hb4⟩
    replace hB := hB.trans (hb4.mono hB.size)
    replace ho3 := ho3.far hb4
    clear hb4
    cases h1 : lbsB al
    · rw [h1] at CO HK
      have e1 := HK.out
      simp at e1
      subst e1
      go_wp2_with (go_at_call 74; refine (CO.out _ _ _ ho3.reads.2).mono ?_; rintro e w5 ⟨rfl, hb5⟩)
      go_ret2
      exact ⟨_, rfl, by rw [HR.out]; exact ownR.nil _ _ _ _, hB.trans (hb5.mono hB.size)⟩
    · rw [h1] at CO HK
      have e1 := HK.out
      simp at e1
      subst e1
      go_wp2_with (go_at_call 74; refine (CO.out _ _ _ ho3.reads.2).mono ?_; rintro e w5 ⟨rfl, hb5⟩)
      go_ret2
      refine ⟨_, rfl, ?_, hB.trans (hb5.mono hB.size)⟩
      have e2 : pr = al := by rw [HR.out]; simp
      rw [e2, hlen, HFL.out]; exact ho3.far hb5
end Go.Proofs.Ytlnhiaapjphefaa
