/-
  Draws of Geneves, given the draw of options (TlvsC: what is asked of it).
-/
import Derived.Test.YtnheppkjeoiipaaDtun1
import Derived.Test.YtnheppkjeoiipaaGnv5
namespace Go.Proofs.Ytnheppkjeoiipaa
open Go.RowKit Go.PlainAid
/-- what is asked of the draw of options -/
def TlvsC : Prop := ∀ (b : Nat) (C : Option Addr) (len cap : Nat) (w : World), RdI w b C len cap →
    Calls Try.prog 28 #[.pointer (some ⟨b, 0, none⟩)] w fun e w' => ∃ (v : Value) (l : List OpV), e = .returned v ∧ ownV w' w.heap.size 33 3 v l.length (opF l) ∧ l.length ≤ 3 ∧ opTot l ≤ 1000 ∧ RdI w' b C len cap ∧ Only b w w'
theorem ownV_only {w w' : World} {B b : Nat} {E : TypeId} {k : Nat} {v : Value} {n : Nat} {xs : List Value} (h : ownV w B E k v n xs) (hO : Only b w w') (hb : b < B) : ownV w' B E k v n xs := by
  obtain ⟨h1, h2⟩ := h
  refine ⟨h1, ?_⟩
  rcases h2 with h2 | ⟨g, cap, cur, e, hB, hh, r⟩
  · exact .inl h2
  · exact .inr ⟨g, cap, cur, e, hB, (hO.block g (lt_of_block hh) (by simp; omega)).trans hh, r⟩
set_option maxRecDepth 100000 in
set_option maxHeartbeats 800000 in
theorem d_GeneveBytes (HT : TlvsC) (B : Nat) (C : Option Addr) (len cap : Nat) (w : World) (h : Code w B C len) :
    Calls Try.prog 8 #[.slice C len cap] w fun e w' => ∃ (x : Int) (v : Value) (l : List OpV) (t : ByteArray), e = .returned (.tuple #[.int .i64 x, v, .string t]) ∧ ownV w' w.heap.size 33 3 v l.length (opF l) ∧ l.length ≤ 3 ∧ opTot l ≤ 1000 ∧ t.size ≤ 65100 ∧ Below w.heap.size w w' := by
  go_enter Try.func8, Try.ntmps8
  go_wp2_with fail
  refine (r_Open B C len cap _ h).mono ?_
  rintro e w1 ⟨rfl, hR1, hb1, hs1⟩
  go_wp2_with fail
  refine (r_net _ C len cap _ hR1).mono ?_
  rintro e w2 ⟨x, rfl, hR2, hO2⟩
  go_wp2_with fail
  refine (HT _ C len cap _ hR2).mono ?_
  rintro e w3 ⟨v, l, rfl, ho, hl, ht, hR3, hO3⟩
  go_wp2_with fail
  refine (r_data _ C len cap _ hR3).mono ?_
  rintro e w4 ⟨t, rfl, htd, hR4, hO4⟩
  have ho4 := ownV_only ho hO4 hR2.lt
  go_wp2
  go_ret3
  exact ⟨x, v, l, t, rfl, ho4.mono (by have := hR2.lt; omega), hl, ht, htd, hb1.trans ((hO2.trans (hO3.trans hO4)).below (Nat.le_refl _) hb1.size)⟩
theorem gvText_le (net : Int) (l : List OpV) (data : ByteArray) : (gvText net l data).length ≤ 260 + data.size := by
  unfold gvText; split
  · rename_i h
    rw [Bool.and_eq_true, Bool.and_eq_true] at h
    have hb := h.1.2
    unfold opsB at hb
    rw [Bool.and_eq_true, decide_eq_true_eq] at hb
    rw [List.length_append, List.length_append, gvH_len, opsText_len, bl_length]; omega
  · simp
set_option maxRecDepth 100000 in
set_option maxHeartbeats 800000 in
theorem d_ReadGeneve (HT : TlvsC) (B : Nat) (C : Option Addr) (len cap : Nat) (w : World) (h : Code w B C len) :
    Calls Try.prog 10 #[.slice C len cap] w fun e w' => ∃ t : ByteArray, e = .returned (.string t) ∧ t.size ≤ 400 ∧ Below w.heap.size w w' := by
  go_enter Try.func10, Try.ntmps10
  go_wp2_with fail
  refine (r_Open B C len cap _ h).mono ?_
  rintro e w1 ⟨rfl, hR1, hb1, hs1⟩
  go_wp2_with fail
  refine (r_net _ C len cap _ hR1).mono ?_
  rintro e w2 ⟨x, rfl, hR2, hO2⟩
  go_wp2_with fail
  refine (HT _ C len cap _ hR2).mono ?_
  rintro e w3 ⟨v, l, rfl, ho, hl, ht, hR3, hO3⟩
  go_wp2_with fail
  refine (r_bytes _ C len cap _ _ (by omega) (by omega) hR3).mono ?_
  rintro e w4 ⟨d, rfl, hd, hR4, hO4⟩
  have ho4 := ownV_only ho hO4 hR2.lt
  obtain ⟨T, c, rfl⟩ := ho4.form
  have hsl : (str d).size ≤ 30 := by rw [str_size]; omega
  go_wp2_with fail
  refine (s_GeneveBytes x T c l (str d) _ ho4.reads.2 (by omega) (by omega)).mono ?_
  rintro e w5 ⟨rfl, hb5⟩
  have hvl := gvText_le x l (str d)
  have hvs : (str (gvText x l (str d))).size ≤ 290 := by rw [str_size]; omega
  go_wp2_with fail
  refine (r_bent _ C len cap _ _ (by omega) (hR4.far hb5)).mono ?_
  rintro e w6 ⟨t, rfl, htb, hR6, hO6⟩
  go_wp2
  go_ret
  have hO5 : Only w.heap.size w1 w5 := (hO2.trans (hO3.trans hO4)).far hb5
  exact ⟨t, rfl, by omega, hb1.trans ((hO5.trans hO6).below (Nat.le_refl _) hb1.size)⟩
end Go.Proofs.Ytnheppkjeoiipaa
