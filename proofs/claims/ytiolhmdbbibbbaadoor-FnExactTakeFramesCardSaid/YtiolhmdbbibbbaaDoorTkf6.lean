/-
  The exact law of TakeFrames: its walk.
-/
import Derived.Test.YtiolhmdbbibbbaaDoorTkf5
namespace Go.Proofs.YtiolhmdbbibbbaaDoor
open Go.RowKit Go.PlainAid
theorem tkF_few : ∀ f s a, a ≤ s.size → (tkF f s a).1.length + a ≤ s.size := by
  intro f
  induction f with
  | zero => intro s a h; simpa [tkF] using h
  | succ f ih =>
    intro s a h
    unfold tkF
    cases hok : tkOk s a
    · simpa using h
    · have hi := tkOk_in hok
      have := ih s (a + 8 + tkN s a) hi.2.2
      simp; omega
theorem tkR_few (s : ByteArray) : (tkR s 0).1.length ≤ s.size := by
  have := tkF_few (s.size + 1) s 0 (Nat.zero_le _)
  exact this
set_option maxRecDepth 100000 in
set_option maxHeartbeats 6400000 in
theorem walk_FnExactTakeFrames (s : ByteArray) (hs : s.size ≤ maxLen) (w : World) (hT : CrcTab w) :
    Calls Tryd.prog 3 #[.string s] w fun e w' => e = .returned (.bool true) ∧ Below w.heap.size w w' := by
  unfold maxLen at hs
  by_cases hz : 1048576 < s.size
  · go_enter Tryd.func3, Tryd.ntmps3
    go_wp2
    go_ret
    exact ⟨rfl, Below.refl _ _⟩
  · have CS : Hid (∀ u : World, Calls Tryd.prog 4 #[.string s] u fun e w' => ∃ v, e = .returned (.tuple #[v, .int .i64 ((tkR s 0).2 : Int)]) ∧ ownV w' u.heap.size 9 1 v (tkR s 0).1.length (stF (tkR s 0).1) ∧ Below u.heap.size u w') := fun u => s_TakeFrames s u (by omega)
    have CI : Hid (∀ u : World, CrcTab u → Calls Tryd.prog 5 #[.string s] u fun e w' => ∃ v, e = .returned (.tuple #[v, .int .i64 ((tkR s 0).2 : Int)]) ∧ ownV w' u.heap.size 9 1 v (tkR s 0).1.length (stF (tkR s 0).1) ∧ Below u.heap.size u w') := fun u hu => i_TakeFrames s u (by omega) hu
    have CE : Hid (∀ (m : List ByteArray) (S1 S2 : Option Addr) (c1 c2 : Nat) (u : World), m.length ≤ 1099511627776 → CellsAt u S1 (stF m) → CellsAt u S2 (stF m) → Calls Tryd.prog 6 #[.slice S1 m.length c1, .slice S2 m.length c2] u fun e w' => e = .returned (.bool true) ∧ Below u.heap.size u w') := fun m S1 S2 c1 c2 u hm h1 h2 => l_eqStringS S1 S2 c1 c2 m u h1 h2 hm
    have hrl : (tkR s 0).1.length ≤ 1048576 := Nat.le_trans (tkR_few s) (by omega)
    generalize (tkR s 0).1 = pr at *
    obtain ⟨pe, hpe⟩ : ∃ x : Int, x = ((tkR s 0).2 : Int) := ⟨_, rfl⟩
    rw [← hpe] at CS CI
    clear hpe
    have hpn : (pe != pe) = false := by simp
    have HT : Hid (∀ u : World, Below w.heap.size w u → CrcTab u) := fun u hu => hT.below hu
    have hBr := Below.refl w.heap.size w
    go_enter Tryd.func3, Tryd.ntmps3
    go_wp2_with fail
    go_at_call 4
    refine (CS.out _).mono ?_
    rintro e w1 ⟨vW, rfl, hW, hB⟩
    obtain ⟨TW, cW, rfl⟩ := hW.form
    have lW := World.ownsRow.lt hW
    have hT1 := HT.out _ hB
    go_wp2_with fail
    go_at_call 5
    refine (CI.out _ hT1).mono ?_
    rintro e w2 ⟨vG, rfl, hG, hb⟩
    obtain ⟨TG, cG, rfl⟩ := hG.form
    have lG := World.ownsRow.lt hG
    have bG := hB.size
    replace hW := hW.far hb
    replace hB := hB.trans (hb.mono hB.size)
    clear hb hT1
    go_wp2_with fail
    go_at_call 6
    refine (CE.out pr _ _ _ _ _ (by omega) hG.reads.2 hW.reads.2).mono ?_
    rintro e w3 ⟨rfl, hb⟩
    replace hW := hW.far hb
    replace hG := hG.far hb
    replace hB := hB.trans (hb.mono hB.size)
    clear hb
    have CM2 : Hid (∀ u : World, u = w3 → Calls Tryd.prog 7 #[.slice TG pr.length cG, .int .i64 1] u fun e w' => e = .returned (.int .i64 (1 + (pr.length : Int))) ∧ ownV w' w1.heap.size 9 1 (.slice TG pr.length cG) pr.length (stF (stMk pr.length)) ∧ u.grownBy w' (Value.slice TG pr.length cG).ownBlock) := by
      rintro u rfl; exact l_markStringS _ _ _ _ _ u hG (by omega)
    go_wp2_with fail
    go_at_call 7
    refine (CM2.out _ rfl).mono ?_
    rintro e w4 ⟨rfl, hM, hg⟩
    replace hW := hW.keptT hg (fun b hb => by have := (lW b hb).2; intro hx; have := (lG b hx).1; omega)
    replace hB := hB.grown hg hB.size (fun b hb => by have := (lG b hb).1; omega)
    clear CM2 hG hg
    have CH : Hid (∀ u : World, ownV u w1.heap.size 9 1 (.slice TG pr.length cG) pr.length (stF (stMk pr.length)) → Calls Tryd.prog 8 #[.slice TG pr.length cG, .int .i64 1] u fun e w' => e = .returned (.int .i64 (1 + (pr.length : Int))) ∧ Below u.heap.size u w') := fun u hu => l_heldStringS _ _ _ _ u hu (by omega)
    have hq1 : ¬ (1 + (pr.length : Int) < 0) := by omega
    have hq2 : ((1 + (pr.length : Int)) != (1 + (pr.length : Int))) = false := by simp
    go_wp2_with fail
    go_at_call 8
    refine (CH.out _ hM).mono ?_
    rintro e w5 ⟨rfl, hb⟩
    replace hW := hW.far hb
    replace hM := hM.far hb
    replace hB := hB.trans (hb.mono hB.size)
    clear hb
    have hT5 := HT.out _ hB
    go_wp2_with fail
    go_at_call 5
    refine (CI.out _ hT5).mono ?_
    rintro e w6 ⟨vK, rfl, hK, hb⟩
    obtain ⟨TK, cK, rfl⟩ := hK.form
    replace hW := hW.far hb
    replace hM := hM.far hb
    replace hB := hB.trans (hb.mono hB.size)
    clear hb hT5
    go_wp2_with fail
    go_at_call 6
    refine (CE.out pr _ _ _ _ _ (by omega) hK.reads.2 hW.reads.2).mono ?_
    rintro e w7 ⟨rfl, hb⟩
    replace hM := hM.far hb
    replace hB := hB.trans (hb.mono hB.size)
    clear hb
    go_wp2_with fail
    go_at_call 8
    refine (CH.out _ hM).mono ?_
    rintro e w8 ⟨rfl, hb⟩
    replace hB := hB.trans (hb.mono hB.size)
    clear hb
    go_wp2
    go_ret
    exact ⟨rfl, hB⟩
end Go.Proofs.YtiolhmdbbibbbaaDoor
