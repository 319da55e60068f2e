/-
  Draws of labels.
-/
import Derived.Test.YtlnhiaapjphefaaDtun1
import Derived.Test.YtlnhiaapjphefaaLabs1
import Derived.Test.YtlnhiaapjphefaaTabs0
namespace Go.Proofs.Ytlnhiaapjphefaa
open Go.RowKit Go.PlainAid
theorem below_only {b : Nat} {w w' : World} (h : Below w.heap.size w w') : Only b w w' := ⟨h.os, h.tape, h.output, h.size, fun i hi _ => h.block i hi⟩
theorem lbF_set0 (l : List LbV) (y : Int) (h : 1 ≤ l.length) : (lbF l).set 0 y = lbF (⟨y, (lbA l 0).tc, (lbA l 0).ttl⟩ :: l.tail) := by
  cases l with
  | nil => simp at h
  | cons a l => rfl
theorem lbF_set1 (l : List LbV) (y : Int) (h : 1 ≤ l.length) : (lbF l).set 1 y = lbF (⟨(lbA l 0).label, y, (lbA l 0).ttl⟩ :: l.tail) := by
  cases l with
  | nil => simp at h
  | cons a l => rfl
set_option maxRecDepth 100000 in
set_option maxHeartbeats 6400000 in
theorem r_labels (b : Nat) (C : Option Addr) (len cap : Nat) (w : World) (h : RdI w b C len cap) :
    Calls Try.prog 66 #[.pointer (some ⟨b, 0, none⟩)] w fun e w' => ∃ (v : Value) (l : List LbV), e = .returned v ∧ ownR w' w.heap.size 55 3 v l.length (lbF l) ∧ 1 ≤ l.length ∧ l.length ≤ 5 ∧ RdI w' b C len cap ∧ Only b w w' := by
  have hbw := h.lt
  have hO0 : ownR (w.alloc (.cells #[] 55)) w.heap.size 55 3 (.slice (some ⟨w.heap.size, 0, none⟩) 0 0) 0 [] := World.ownsRow_made w #[] 0 (Nat.le_refl _) (by decide) rfl
  have hB0 : Below w.heap.size w (w.alloc (.cells #[] 55)) := (Below.refl _ w).alloc (Nat.le_refl _) _
  have hR0 := h.alloc (.cells #[] 55)
  go_enter Try.func66, Try.ntmps66
  go_wp2_with fail
  generalize hW : w.alloc _ = w0 at *
  clear hW
  refine (r_below _ C len cap _ _ (by omega) hR0).mono ?_
  rintro e w1 ⟨x, rfl, hx0, hx1, hR1, hO1⟩
  obtain ⟨N, rfl⟩ := Int.eq_ofNat_of_zero_le hx0
  have hN : N ≤ 3 := by omega
  have ho1 := own_kept hO0 hO1 (fun k hk => by have := (World.ownsRow.lt hO0 k hk).1; simp; omega)
  have hQ1 : Only b w w1 := (below_only hB0).trans hO1
  go_wp2
  go_loopw [3, 4] (fun v i wr => ∃ (k : Nat) (l : List LbV), i = .int .i64 (k : Int) ∧ l.length + k = N + 1 ∧ ownR wr w.heap.size 55 3 v l.length (lbF l) ∧ RdI wr b C len cap ∧ Only b w wr) (fun _ i _ => (intOf i).toNat)
  case atStart => exact ⟨N + 1, [], by first | rfl | (congr 1; omega), by simp, ho1, hR1, hQ1⟩
  case round =>
    obtain ⟨k, l, rfl, hk, ho, hR, hQ⟩ := hrel
    obtain ⟨T, c, rfl⟩ := ho.form
    have hsz := hQ.size
    by_cases hlt : 0 < k
    · go_wp2_with fail
      refine (r_word _ C len cap _ hR).mono ?_
      rintro e w2 ⟨x, rfl, hx0, hx1, hR2, hO2⟩
      go_wp2_with fail
      refine (r_below _ C len cap _ _ (by omega) hR2).mono ?_
      rintro e w3 ⟨y, rfl, hy0, hy1, hR3, hO3⟩
      go_wp2_with fail
      refine (r_below _ C len cap _ _ (by omega) hR3).mono ?_
      rintro e w4 ⟨z, rfl, hz0, hz1, hR4, hO4⟩
      have hO := (hO2.trans hO3).trans hO4
      have ho4 := own_kept ho hO (fun k hk => by have := (World.ownsRow.lt ho k hk).1; simp; omega)
      have hsz4 : w.heap.size ≤ w4.heap.size := by have := hO.size; omega
      go_wp2_with (at_builtin; refine wpList_append_recs Try.infLabel rfl _ _ rfl w.heap.size _ _ _ rfl (ho4.alloc _) _ 1 1 [x / 17592186044416, y, z] rfl (by simp) (by simp) (ints_new w4 55 [x / 17592186044416, y, z]) (by omega) (by simp; omega) ?_; intro v' w5 ho5 hb5)
      have hb6 : Below w.heap.size w4 w5 := ((Below.refl w.heap.size w4).alloc hsz4 _).trans hb5
      go_roundw
      case rel =>
        refine ⟨k - 1, l ++ [⟨x / 17592186044416, y, z⟩], by first | go_num | (congr 1; omega), by simp; omega, ?_, hR4.kept (hb6.mono (by omega)), ?_⟩
        · rw [lbF_app, List.length_append]; exact ho5
        · exact ⟨hb6.os.trans (hQ.trans hO).os, hb6.tape.trans (hQ.trans hO).tape, hb6.output.trans (hQ.trans hO).output, Nat.le_trans (hQ.trans hO).size hb6.size, fun i hi hne => (hb6.block i hi).trans ((hQ.trans hO).block i hi hne)⟩
      case measure => simp [intOf]; omega
    · have hk0 : k = 0 := by omega
      subst hk0
      have hl1 : 1 ≤ l.length := by omega
      have hl4 : l.length ≤ 4 := by omega
      rcases ho.shape with ⟨_, hn, _⟩ | ⟨g, cap2, hv, hgB, hgs, hn, hcm⟩
      · omega
      simp only [Value.slice.injEq, true_and] at hv
      obtain ⟨rfl, rfl⟩ := hv
      go_wp2_with fail
      refine (r_below _ C len cap _ _ (by omega) hR).mono ?_
      rintro e w2 ⟨x, rfl, hx0, hx1, hR2, hO2⟩
      have ho2 := own_kept ho hO2 (fun k hk => by have := (World.ownsRow.lt ho k hk).1; simp; omega)
      have hQ2 := hQ.trans hO2
      have hz2 := hQ2.size
      have hi1 : (0 : Int) < (l.length : Int) := by omega
      by_cases h0 : x = 0
      · subst h0
        go_wp2_with fail
        refine (r_off _ C len cap _ _ _ (by omega) (by omega) (by omega) (by omega) hR2).mono ?_
        rintro e w3 ⟨y, rfl, _, _, hR3, hO3⟩
        have ho3 := own_kept ho2 hO3 (fun k hk => by have := (World.ownsRow.lt ho k hk).1; simp; omega)
        have hQ3 := hQ2.trans hO3
        have c0 := ho3.cell 0 (by omega)
        have f0 := ho3.frozen 0
        go_wp2
        go_ret
        refine ⟨_, ⟨y, (lbA l 0).tc, (lbA l 0).ttl⟩ :: l.tail, rfl, ?_, by simp, by simp; omega, ?_, ?_⟩
        · have := ho3.stored 0 y
          rw [lbF_set0 l y hl1] at this
          simpa [Nat.sub_add_cancel hl1] using this
        · exact hR3.kept (below_set (Below.refl _ w3) _ _ (by simp; omega))
        · exact ⟨hQ3.os, hQ3.tape, hQ3.output, by simpa using hQ3.size, fun i hi hne => (heap_setCell_other w3 _ i _ (by simp; omega)).trans (hQ3.block i hi hne)⟩
      · have h0b : (x == 0) = false := by simp [h0]
        by_cases h1 : x = 1
        · subst h1
          have c0 := ho2.cell 0 (by omega)
          have c1 := ho2.cell 1 (by omega)
          have c2 := ho2.cell 2 (by omega)
          have hsz2 : w.heap.size ≤ w2.heap.size := hz2
          go_wp2_with (at_builtin; refine wpList_append_recs Try.infLabel rfl _ _ rfl w.heap.size _ _ _ rfl (ho2.alloc _) _ 1 1 [ia (lbF l) 0, ia (lbF l) 1, ia (lbF l) 2] rfl (by simp) (by simp) (ints_new w2 55 [ia (lbF l) 0, ia (lbF l) 1, ia (lbF l) 2]) (by omega) (by simp; omega) ?_; intro v' w5 ho5 hb5)
          have hb6 : Below w.heap.size w2 w5 := ((Below.refl w.heap.size w2).alloc hsz2 _).trans hb5
          go_ret
          refine ⟨_, l ++ [⟨ia (lbF l) 0, ia (lbF l) 1, ia (lbF l) 2⟩], rfl, ?_, by simp, by simp; omega, hR2.kept (hb6.mono (by omega)), ?_⟩
          · rw [lbF_app, List.length_append]; exact ho5
          · exact ⟨hb6.os.trans hQ2.os, hb6.tape.trans hQ2.tape, hb6.output.trans hQ2.output, Nat.le_trans hQ2.size hb6.size, fun i hi hne => (hb6.block i hi).trans (hQ2.block i hi hne)⟩
        · have h1b : (x == 1) = false := by simp [h1]
          by_cases h2 : x = 2
          · subst h2
            go_wp2_with fail
            refine (r_off _ C len cap _ _ _ (by omega) (by omega) (by omega) (by omega) hR2).mono ?_
            rintro e w3 ⟨y, rfl, _, _, hR3, hO3⟩
            have ho3 := own_kept ho2 hO3 (fun k hk => by have := (World.ownsRow.lt ho k hk).1; simp; omega)
            have hQ3 := hQ2.trans hO3
            have c1 := ho3.cell 1 (by omega)
            have f1 := ho3.frozen 1
            go_wp2
            go_ret
            refine ⟨_, ⟨(lbA l 0).label, y, (lbA l 0).ttl⟩ :: l.tail, rfl, ?_, by simp, by simp; omega, ?_, ?_⟩
            · have := ho3.stored 1 y
              rw [lbF_set1 l y hl1] at this
              simpa [Nat.sub_add_cancel hl1] using this
            · exact hR3.kept (below_set (Below.refl _ w3) _ _ (by simp; omega))
            · exact ⟨hQ3.os, hQ3.tape, hQ3.output, by simpa using hQ3.size, fun i hi hne => (heap_setCell_other w3 _ i _ (by simp; omega)).trans (hQ3.block i hi hne)⟩
          · have h2b : (x == 2) = false := by simp [h2]
            clear h0 h1 h2
            go_wp2
            go_ret
            exact ⟨_, l, rfl, ho2, hl1, by omega, hR2, hQ2⟩
end Go.Proofs.Ytlnhiaapjphefaa
