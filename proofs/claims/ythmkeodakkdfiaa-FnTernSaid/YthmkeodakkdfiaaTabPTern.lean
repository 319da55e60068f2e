/-
  What the program and the model put into a table by masks, and drop.
-/
import Derived.Test.YthmkeodakkdfiaaTabKTern
import Derived.Test.YthmkeodakkdfiaaTabSTern
namespace Go.Proofs.Ythmkeodakkdfiaa
open Go.RowKit Go.PlainAid
def tnLD (l : List TnV) (a0 a1 a2 : Int) : List TnV := tnDropR l ⟨land a0 a1, a1, a2, 0⟩
theorem tnDrop_len (l : List TnV) (a0 a1 a2 : Int) : (tnLD l a0 a1 a2).length ≤ l.length := by
  unfold tnLD tnDropR; split
  · exact dropL_le _ _ _
  · simp
set_option maxRecDepth 100000 in
set_option maxHeartbeats 800000 in
theorem i_TernDrop (g off c : Nat) (l : List TnV) (a0 a1 a2 : Int) (w : World) (h : IntsAt w (some ⟨g, off, none⟩) (tnF l)) (hc : l.length ≤ c) (hl : l.length ≤ 1048576) :
    Calls Try.prog 33 #[.slice (some ⟨g, off, none⟩) l.length c, .int .i64 a0, .int .i64 a1, .int .i64 a2] w fun e w' => ∃ v, e = .returned v ∧ ownR w' w.heap.size 53 4 v (tnLD l a0 a1 a2).length (tnF (tnLD l a0 a1 a2)) ∧ Below w.heap.size w w' := by
  have C : Hid (∀ u : World, u = w → Calls Try.prog 70 #[.slice (some ⟨g, off, none⟩) l.length c, .agg (tnL ⟨land a0 a1, a1, a2, 0⟩)] u fun e w' => ∃ v, e = .returned v ∧ ownR w' u.heap.size 53 4 v (tnLD l a0 a1 a2).length (tnF (tnLD l a0 a1 a2)) ∧ Below u.heap.size u w') := by
    rintro u rfl; exact i_tnDrop g off c l _ u h hc hl
  generalize tnLD l a0 a1 a2 = pr at *
  go_enter Try.func33, Try.ntmps33
  go_wp2_with fail
  go_at_call 70
  refine (C.out _ rfl).mono ?_
  rintro e w1 ⟨v, rfl, ho, hb⟩
  go_wp2
  go_ret
  exact ⟨_, rfl, ho, hb⟩
theorem tnSorted {l : List TnV} (h : tnTab l = true) : ∀ i, i + 1 < l.length → tnLt (l.getD i ⟨0, 0, 0, 0⟩) (l.getD (i + 1) ⟨0, 0, 0, 0⟩) = true := fun _ hi => tblB_lt h hi
def tnKeep (a : TnV) (lm a1 a2 : Int) : Bool := decide (¬ (a.value = lm ∧ a.mask = a1 ∧ a.pri = a2))
theorem tnNe (a : TnV) (lm a1 a2 : Int) : ne tnLt a ⟨lm, a1, a2, 0⟩ = tnKeep a lm a1 a2 := by
  unfold ne tnLt tnKeep
  rw [Bool.eq_iff_iff, Bool.or_eq_true, decide_eq_true_iff, decide_eq_true_iff, decide_eq_true_iff]
  simp only []
  omega
set_option maxRecDepth 100000 in
set_option maxHeartbeats 6400000 in
theorem s_TernDrop (T : Option Addr) (c : Nat) (l : List TnV) (a0 a1 a2 : Int) (w : World) (h : IntsAt w T (tnF l)) (hl : l.length ≤ 1048576) :
    Calls Try.prog 35 #[.slice T l.length c, .int .i64 a0, .int .i64 a1, .int .i64 a2] w fun e w' => ∃ v, e = .returned v ∧ ownR w' w.heap.size 53 4 v (tnLD l a0 a1 a2).length (tnF (tnLD l a0 a1 a2)) ∧ Below w.heap.size w w' := by
  have CT : Hid (∀ u : World, Below w.heap.size w u → Calls Try.prog 68 #[.slice T l.length c] u fun e w' => e = .returned (.bool (tnTab l)) ∧ Below u.heap.size u w') := fun u hu => s_tnTab T c l u (h.below hu) (by omega)
  have hW0 : Below w.heap.size w (w.alloc (.cells #[] 53)) := (Below.refl _ w).alloc (Nat.le_refl _) _
  have HO0 : Hid (ownR (w.alloc (.cells #[] 53)) w.heap.size 53 4 (.slice (some ⟨w.heap.size, 0, none⟩) 0 0) 0 []) := World.ownsRow_made w #[] 0 (Nat.le_refl _) (by decide) rfl
  cases ht : tnTab l
  · rw [ht] at CT
    have e : tnLD l a0 a1 a2 = [] := by unfold tnLD tnDropR; rw [ht]; rfl
    rw [e]
    go_enter Try.func35, Try.ntmps35
    go_wp2
    generalize hW : w.alloc _ = w0 at *
    clear hW
    go_loopw [10, 9] (fun i v wr => i = .int .i64 0 ∧ v = .slice (some ⟨w.heap.size, 0, none⟩) 0 0 ∧ Below w0.heap.size w0 wr) (fun _ _ _ => 0)
    case atStart => exact ⟨rfl, rfl, Below.refl _ _⟩
    case round =>
      obtain ⟨rfl, rfl, hb⟩ := hrel
      have hB := hW0.trans (hb.mono hW0.size)
      have ho := HO0.out.far hb
      by_cases h0 : l.length = 0
      · have h1 : ¬ ((0 : Int) < (l.length : Int)) := by omega
        clear h0
        go_wp2
        go_ret
        exact ⟨_, rfl, ho, hB⟩
      · have h1 : (0 : Int) < (l.length : Int) := by omega
        go_wp2_with (go_at_call 68; refine (CT.out _ hB).mono ?_; rintro e w1 ⟨rfl, hb1⟩)
        go_ret
        exact ⟨_, rfl, ho.far hb1, hB.trans (hb1.mono hB.size)⟩
  · rw [ht] at CT
    have e : tnLD l a0 a1 a2 = l.filter (fun a => tnKeep a (bits .and .i64 a0 a1) a1 a2) := by
      unfold tnLD tnDropR
      rw [ht, if_pos rfl, ← drop_filter tnOrd l _ ⟨0, 0, 0, 0⟩ (tnSorted ht)]
      congr 1; funext a; exact tnNe a _ _ _
    rw [e]
    go_enter Try.func35, Try.ntmps35
    go_wp2
    generalize hW : w.alloc _ = w0 at *
    clear hW e
    go_loopw [10, 9] (fun i v wr => ∃ j : Nat, j ≤ l.length ∧ i = .int .i64 (j : Int) ∧ ownR wr w.heap.size 53 4 v ((l.take j).filter (fun a => tnKeep a (bits .and .i64 a0 a1) a1 a2)).length (tnF ((l.take j).filter (fun a => tnKeep a (bits .and .i64 a0 a1) a1 a2))) ∧ Below w.heap.size w wr) (fun i _ _ => ((l.length : Int) - intOf i).toNat)
    case atStart => exact ⟨0, by omega, rfl, HO0.out, hW0⟩
    case round =>
      obtain ⟨j, hj, rfl, ho, hB⟩ := hrel
      by_cases hlt : j < l.length
      · have hj1 : (j : Int) < (l.length : Int) := by omega
        go_wp2_with fail
        go_at_call 68
        refine (CT.out _ hB).mono ?_
        rintro e w1 ⟨rfl, hb1⟩
        replace hB := hB.trans (hb1.mono hB.size)
        replace ho := ho.far hb1
        clear hb1
        rcases h.below hB with h | ⟨g, off, rfl, hg, hc⟩
        · have := tnF_len l; rw [h] at this; simp at this; omega
        · have hcs := tn_cells hc j hlt
          clear hc
          have HF : Hid ((l.take (j + 1)).filter (fun a => tnKeep a (bits .and .i64 a0 a1) a1 a2) = (l.take j).filter (fun a => tnKeep a (bits .and .i64 a0 a1) a1 a2) ++ (if tnKeep (tnA l j) (bits .and .i64 a0 a1) a1 a2 = true then [tnA l j] else [])) := by
            show _ = _
            rw [List.take_succ_eq_append_getElem hlt, List.filter_append, tnA_eq l j hlt, List.filter_cons, List.filter_nil]
          have hfl : ((l.take j).filter (fun a => tnKeep a (bits .and .i64 a0 a1) a1 a2)).length ≤ j := Nat.le_trans (List.length_filter_le _ _) (by simp; omega)
          have HKe : Hid (tnKeep (tnA l j) (bits .and .i64 a0 a1) a1 a2 = decide (¬ ((tnA l j).value = bits .and .i64 a0 a1 ∧ (tnA l j).mask = a1 ∧ (tnA l j).pri = a2))) := rfl
          generalize (l.take j).filter (fun a => tnKeep a (bits .and .i64 a0 a1) a1 a2) = fl at *
          generalize tnKeep (tnA l j) (bits .and .i64 a0 a1) a1 a2 = kp at *
          generalize tnA l j = b at *
          obtain ⟨x0, x1, x2, x3⟩ := b
          have HKf : Hid (kp = decide (¬ (x0 = bits .and .i64 a0 a1 ∧ x1 = a1 ∧ x2 = a2))) := HKe
          clear HKe
          have hcase : (x0 = bits .and .i64 a0 a1 ∧ x1 = a1 ∧ x2 = a2) ∨ (¬ x0 = bits .and .i64 a0 a1) ∨ (x0 = bits .and .i64 a0 a1 ∧ ¬ x1 = a1) ∨ (x0 = bits .and .i64 a0 a1 ∧ x1 = a1 ∧ ¬ x2 = a2) := by omega
          rcases hcase with ⟨q0, q1, q2⟩ | q0 | ⟨q0, q1⟩ | ⟨q0, q1, q2⟩
          · have e1 : kp = false := by rw [HKf.out, decide_eq_false]; simp [q0, q1, q2]
            subst e1
            rw [if_neg (by decide), List.append_nil] at HF
            subst q0 q1 q2
            go_wp2
            go_roundw
            case rel => exact ⟨j + 1, by omega, by go_num, by rw [HF.out]; exact ho, hB⟩
            case measure => simp [intOf]; omega
          · have e1 : kp = true := by rw [HKf.out, decide_eq_true]; simp [q0]
            subst e1
            rw [if_pos rfl] at HF
            have q0b : (x0 != bits .and .i64 a0 a1) = true := by simpa using q0
            go_wp2_with (at_builtin; refine wpList_append_recs Try.infTern rfl _ _ rfl w.heap.size _ _ _ rfl (ho.alloc _) _ 1 1 [x0, x1, x2, x3] rfl (by simp) (by simp) (ints_new w1 53 [x0, x1, x2, x3]) (by omega) (by have := hB.size; simp; omega) ?_; intro v' w3 ho3 hb3)
            go_roundw
            case rel =>
              refine ⟨j + 1, by omega, by go_num, ?_, (hB.alloc hB.size _).trans hb3⟩
              rw [HF.out, tnF_app, List.length_append]; exact ho3
            case measure => simp [intOf]; omega
          · have e1 : kp = true := by rw [HKf.out, decide_eq_true]; simp [q1]
            subst e1
            rw [if_pos rfl] at HF
            have q0b : (x0 != bits .and .i64 a0 a1) = false := by simp [q0]
            have q1b : (x1 != a1) = true := by simpa using q1
            clear q0
            go_wp2_with (at_builtin; refine wpList_append_recs Try.infTern rfl _ _ rfl w.heap.size _ _ _ rfl (ho.alloc _) _ 1 1 [x0, x1, x2, x3] rfl (by simp) (by simp) (ints_new w1 53 [x0, x1, x2, x3]) (by omega) (by have := hB.size; simp; omega) ?_; intro v' w3 ho3 hb3)
            go_roundw
            case rel =>
              refine ⟨j + 1, by omega, by go_num, ?_, (hB.alloc hB.size _).trans hb3⟩
              rw [HF.out, tnF_app, List.length_append]; exact ho3
            case measure => simp [intOf]; omega
          · have e1 : kp = true := by rw [HKf.out, decide_eq_true]; simp [q2]
            subst e1
            rw [if_pos rfl] at HF
            have q0b : (x0 != bits .and .i64 a0 a1) = false := by simp [q0]
            have q1b : (x1 != a1) = false := by simp [q1]
            have q2b : (x2 != a2) = true := by simpa using q2
            clear q0 q1
            go_wp2_with (at_builtin; refine wpList_append_recs Try.infTern rfl _ _ rfl w.heap.size _ _ _ rfl (ho.alloc _) _ 1 1 [x0, x1, x2, x3] rfl (by simp) (by simp) (ints_new w1 53 [x0, x1, x2, x3]) (by omega) (by have := hB.size; simp; omega) ?_; intro v' w3 ho3 hb3)
            go_roundw
            case rel =>
              refine ⟨j + 1, by omega, by go_num, ?_, (hB.alloc hB.size _).trans hb3⟩
              rw [HF.out, tnF_app, List.length_append]; exact ho3
            case measure => simp [intOf]; omega
      · have e : j = l.length := by omega
        subst e
        rw [List.take_length] at ho
        go_wp2
        go_ret
        exact ⟨_, rfl, ho, hB⟩
end Go.Proofs.Ythmkeodakkdfiaa
