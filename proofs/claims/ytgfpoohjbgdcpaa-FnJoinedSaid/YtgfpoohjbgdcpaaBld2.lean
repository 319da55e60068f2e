/-
  A text that is built up piece by piece, with all that is beyond a place as it was.
-/
import Derived.Test.YtgfpoohjbgdcpaaBld
import Derived.Test.YtgfpoohjbgdcpaaRecsV
import Derived.Lib.UnsafeStr
import Derived.RegionTactic
namespace Go.Proofs.Ytgfpoohjbgdcpaa
open Go.RowKit Go.PlainAid
/-- a builder in block b, its bytes bs; it and its row lie below N -/
def BlN (w : World) (B b N : Nat) (bs : List Value) : Prop := ∃ p v, (p = .pointer none ∨ p = .pointer (some ⟨b, 0, none⟩)) ∧ B ≤ b ∧ b < N ∧ w.heap[b]? = some (.cells #[p, v] 64 (0, 0)) ∧ w.ownsRow B 5 1 v bs.length bs ∧ v.ownBlock ≠ some b ∧ (∀ k, v.ownBlock = some k → k < N) ∧ (bs = [] → v = .slice none 0 0)
theorem BlN.is {w : World} {B b N : Nat} {bs : List Value} (h : BlN w B b N bs) : Lib.IsBuilder 64 5 B b bs w := by
  obtain ⟨p, v, hp, hB, _, hh, ho, hn, _, _⟩ := h
  rcases hp with rfl | rfl
  · exact .inl ⟨hB, v, hh, ho, hn⟩
  · exact .inr ⟨hB, v, hh, ho, hn⟩
theorem BlN.new (w : World) : BlN (w.alloc (.cells #[.pointer none, .slice none 0 0] 64)) w.heap.size w.heap.size (w.heap.size + 1) [] :=
  ⟨_, _, .inl rfl, Nat.le_refl _, Nat.lt_succ_self _, by simp; exact Array.getElem_push_eq, World.ownsRow_nil _ _ _ _, by simp [Value.ownBlock], by simp [Value.ownBlock], fun _ => rfl⟩
theorem BlN.far {w w' : World} {B b N : Nat} {bs : List Value} (h : BlN w B b N bs) (hb : Below N w w') : BlN w' B b N bs := by
  obtain ⟨p, v, hp, hB, hN, hh, ho, hn, hk, he⟩ := h
  refine ⟨p, v, hp, hB, hN, (hb.block b hN).trans hh, ?_, hn, hk, he⟩
  obtain ⟨h1, h2⟩ := ho
  refine ⟨h1, ?_⟩
  rcases h2 with h2 | ⟨g, cap, cur, e, hBg, hg, r⟩
  · exact .inl h2
  · exact .inr ⟨g, cap, cur, e, hBg, (hb.block g (hk g (by rw [e]; rfl))).trans hg, r⟩
set_option maxHeartbeats 2000000 in
set_option maxRecDepth 100000 in
theorem bl_writeN (B b N : Nat) (bs : List Value) (s : ByteArray) (w : World) (h : BlN w B b N bs) (hlen : bs.length + s.size ≤ 140737488355328) (hBw : B ≤ w.heap.size) (hN : N ≤ w.heap.size) :
    Calls Try.prog 47 #[.pointer (some ⟨b, 0, none⟩), .string s] w fun e w' => e = .returned (.tuple #[.int .i64 s.size, .nilIface]) ∧ (BlN w' B b w'.heap.size (bs ++ Lib.strCells s) ∧ Below B w w') := by
  obtain ⟨i0, hi, hz0, hz1, hz2⟩ := info_parts Try.infoByteB
  obtain ⟨p, v, hp, hB, hbN, hbk, hown, hne, hk, he⟩ := h
  have CC : Hid (Calls Try.prog 69 #[.pointer (some ⟨b, 0, none⟩)] w fun e w' => e = .returned (.tuple #[]) ∧ w'.heap[b]? = some (.cells #[.pointer (some ⟨b, 0, none⟩), v] 64 (0, 0)) ∧ w'.ownsRow B 5 1 v bs.length bs ∧ w'.heap.size = w.heap.size ∧ Below B w w') := by
    have hA : Lib.BuilderAt 64 5 B b p bs w := ⟨hB, v, hbk, hown, hne⟩
    rcases hp with rfl | rfl
    · refine (bl_fresh b w hA.cell0 hA.shape hA.frozen0).mono ?_
      rintro e w' ⟨rfl, rfl⟩
      refine ⟨rfl, ?_, ?_, by simp, (Below.refl B w).setCell (p := ⟨b, 0, none⟩) hB _⟩
      · rw [heap_setCell_same w b 0 _ _ _ hbk]; rfl
      · exact ownsRow_setCell_other hown (a := ⟨b, 0, none⟩) hne _
    · refine (bl_used b w hA.cell0).mono ?_
      rintro e w' ⟨rfl, rfl⟩
      exact ⟨rfl, hbk, hown, rfl, Below.refl B _⟩
  clear hp hbk hown
  go_enter Try.func47, Try.ntmps47
  go_wp2_with fail
  go_at_call 69
  refine CC.out.mono ?_
  rintro e w1 ⟨rfl, hbk, hown, hsz, hb1⟩
  clear CC
  have c0 : w1.cell? ⟨b, 0, none⟩ = some (.pointer (some ⟨b, 0, none⟩)) := by rw [Lib.cell_of_heap hbk]; rfl
  have c1 : w1.cell? ⟨b, 1, none⟩ = some v := by rw [Lib.cell_of_heap hbk]; rfl
  go_wp2_with (at_builtin; refine Lib.wpList_append_own_string _ rfl _ _ 33 9 rfl B 5 i0 Try.underlying33 Try.underlying9 hi hz0 hz1 hz2 _ _ _ rfl hown s rfl ?c3 ?c4 ?c5 ?_)
  case c3 => unfold maxLen; omega
  case c4 => omega
  case c5 => have := hb1.size; omega
  intro v' w2 hown' hgrow hnil
  have hlt : b < w1.heap.size := by omega
  have hb2 : w2.heap[b]? = some (.cells #[.pointer (some ⟨b, 0, none⟩), v] 64 (0, 0)) := by
    rw [hgrow.block b hlt (fun e => hne e.symm)]
    exact hbk
  have d0 : w2.cell? ⟨b, 0, none⟩ = some (.pointer (some ⟨b, 0, none⟩)) := by rw [Lib.cell_of_heap hb2]; rfl
  have d1 : w2.cell? ⟨b, 1, none⟩ = some v := by rw [Lib.cell_of_heap hb2]; rfl
  have f1 : w2.frozen? ⟨b, 1, none⟩ = false := Lib.frozen_of_heap hb2 1
  have hne' : v'.ownBlock ≠ some b := Lib.ownBlock_ne hown' hb2 (by decide)
  have hlt2 := hown'.lt
  have hNil : bs ++ Lib.strCells s = [] → v' = .slice none 0 0 := fun hq => by
    obtain ⟨q1, q2⟩ := List.append_eq_nil_iff.1 hq
    have q3 : s.size = 0 := by rw [← Lib.strCells_length, q2]; rfl
    first | exact hnil.2 ⟨he q1, q3⟩ | exact hnil.2 ⟨he q1, ByteArray.size_eq_zero_iff.1 q3⟩
  have hown2 := ownsRow_setCell_other (w := w2) hown' (a := ⟨b, 1, none⟩) hne' v'
  have hH : (w2.setCell ⟨b, 1, none⟩ v').heap[b]? = some (.cells #[.pointer (some ⟨b, 0, none⟩), v'] 64 (0, 0)) := by
    rw [heap_setCell_same w2 b 1 _ _ _ hb2]; rfl
  have hBB : Below B w (w2.setCell ⟨b, 1, none⟩ v') := (hb1.grown hgrow (by have := hb1.size; omega) (fun k hk => (hown.lt k hk).1)).setCell (p := ⟨b, 1, none⟩) hB _
  have hss : w1.heap.size ≤ w2.heap.size := hgrow.size
  have HH : Hid (BlN (w2.setCell ⟨b, 1, none⟩ v') B b (w2.setCell ⟨b, 1, none⟩ v').heap.size (bs ++ Lib.strCells s)) := ⟨_, v', .inr rfl, hB, by simp; omega, hH, by simpa [Lib.strCells_length] using hown2, hne', fun k hk => by simpa using (hlt2 k hk).2, hNil⟩
  obtain ⟨ao, n', cap, rfl⟩ : ∃ ao n' cap, v' = .slice ao n' cap := by
    rcases hown'.2 with ⟨hv, _⟩ | ⟨g, cap, cur, hv, _⟩
    · exact ⟨_, _, _, hv⟩
    · exact ⟨_, _, _, hv⟩
  clear hnil hNil hH hown2 hlt2
  go_wp2
  go_ret2
  exact ⟨rfl, HH.out, hBB⟩
theorem freeze_at (w : World) (p : Addr) (n i : Nat) (h : i ≠ p.block) : (w.freeze p n).heap[i]? = w.heap[i]? := by
  unfold World.freeze
  split
  · rfl
  · simp only [Array.getElem?_modify]
    rw [if_neg (Ne.symm h)]
theorem freeze_size (w : World) (p : Addr) (n : Nat) : (w.freeze p n).heap.size = w.heap.size := by
  unfold World.freeze
  split
  · rfl
  · simp
set_option maxHeartbeats 2000000 in
set_option maxRecDepth 100000 in
theorem bl_stringN (B b N : Nat) (l : List UInt8) (w : World) (h : BlN w B b N (Lib.byteCells l)) :
    Calls Try.prog 49 #[.pointer (some ⟨b, 0, none⟩)] w fun e w' => e = .returned (.string ⟨l.toArray⟩) ∧ (∀ i, N ≤ i → w'.heap[i]? = w.heap[i]?) ∧ w'.heap.size = w.heap.size ∧ Below B w w' := by
  obtain ⟨p, v, hp, hB, hbN, hbk, hown, hne, hk, he⟩ := h
  by_cases hl : l = []
  · subst hl
    have hv : v = .slice none 0 0 := he rfl
    subst hv
    have hUS : ∀ (W : World) (q : Option Addr), (Builtin.unsafeString_ #[85, 3] 9 #[.pointer q, .int .i64 0]).run Try.prog W = .ok (.string .empty) W := fun W q => Lib.run_unsafeString_none W _ _ _ q
    have c1 : w.drew.cell? ⟨b, 1, none⟩ = some (.slice none 0 0) := by
      have : w.drew.heap[b]? = some (.cells #[p, .slice none 0 0] 64 (0, 0)) := hbk
      rw [Lib.cell_of_heap this]; rfl
    have hSD : (Builtin.unsafeSliceData_ #[33] 85 #[.slice none 0 0]).run Try.prog w.drew = .ok (.pointer none) w.drew := rfl
    go_enter Try.func49, Try.ntmps49
    go_wp2
    go_region
    all_goals (go_wp2; go_ret; exact ⟨rfl, fun _ _ => rfl, rfl, Below.drew (Below.refl B w)⟩)
  · have h0 : l ≠ [] := hl
    clear hl he
    have hl0 : l.length ≠ 0 := by simpa using h0
    rw [Lib.byteCells_length] at hown
    obtain ⟨g, cap, cur, rfl, hbg, hg, hnc, hcm, hcs, htake⟩ : ∃ g cap cur, v = .slice (some ⟨g, 0, none⟩) l.length cap ∧ B ≤ g ∧ w.heap[g]? = some (.cells cur 5 (0, 0)) ∧ l.length ≤ cap ∧ cap ≤ maxLen ∧ cur.size = cap * 1 ∧ cur.toList.take (l.length * 1) = Lib.byteCells l := by
      rcases hown.2 with ⟨_, hz⟩ | ⟨g, cap, cur, hv, r⟩
      · exact absurd hz hl0
      · exact ⟨g, cap, cur, hv, r⟩
    have hgN : g < N := hk g rfl
    have c1 : w.drew.cell? ⟨b, 1, none⟩ = some (.slice (some ⟨g, 0, none⟩) l.length cap) := by
      have : w.drew.heap[b]? = some (.cells #[p, .slice (some ⟨g, 0, none⟩) l.length cap] 64 (0, 0)) := hbk
      rw [Lib.cell_of_heap this]; rfl
    have hSD : (Builtin.unsafeSliceData_ #[33] 85 #[.slice (some ⟨g, 0, none⟩) l.length cap]).run Try.prog w.drew = .ok (.pointer (some ⟨g, 0, none⟩)) w.drew :=
      Lib.run_unsafeSliceData_row _ _ _ _ _ _ (by omega)
    have hUS : (Builtin.unsafeString_ #[85, 3] 9 #[.pointer (some ⟨g, 0, none⟩), .int .i64 l.length]).run Try.prog w.drew = .ok (.string ⟨l.toArray⟩) (w.drew.freeze ⟨g, 0, none⟩ l.length) := by
      refine Lib.run_unsafeString_row w.drew 85 3 9 5 Try.underlying85 (by kernel_rfl) g cur.size (by have hg' : w.drew.heap[g]? = some (.cells cur 5 (0, 0)) := hg; simp [World.shape?, hg']) l h0 (by omega) (by unfold maxLen at hcm; omega) ?_
      intro j x hx
      have := hown.cells (g := g) rfl j (.int .u8 x.toNat) (by simp [Lib.byteCells, hx])
      exact this
    go_enter Try.func49, Try.ntmps49
    go_wp2
    go_region
    all_goals (go_wp2; go_ret; exact ⟨rfl, fun i hi => freeze_at _ _ _ _ (by simp only; omega), freeze_size _ _ _, Lib.below_freeze (Below.drew (Below.refl B w)) (p := ⟨g, 0, none⟩) hbg _⟩)
end Go.Proofs.Ytgfpoohjbgdcpaa
