/-
  Contracts of the reader of bytes: numbers, pieces, the rest.
-/
import Derived.Test.YteflhnmoceppgaaDoorIps3
import Derived.Test.YteflhnmoceppgaaDoorClone
namespace Go.Proofs.YteflhnmoceppgaaDoor
open Go.RowKit Go.PlainAid
def Fx (W : World) (b : Nat) : Prop := b < W.heap.size ∧ ∀ j, W.frozen? ⟨b, j, none⟩ = false
theorem Fx.below {W W' : World} {b : Nat} (h : Fx W b) (hb : Below W.heap.size W W') : Fx W' b :=
  ⟨Nat.lt_of_lt_of_le h.1 hb.size, fun j => (World.frozen?_of_block (w := W) (a := ⟨b, j, none⟩) (hb.block b h.1)).trans (h.2 j)⟩
theorem Fx.new (W : World) (vs : Array Value) (t : TypeId) : Fx (W.alloc (.cells vs t)) W.heap.size :=
  ⟨by simp, fun j => by simp⟩
theorem Fx.put {W : World} {b : Nat} (h : Fx W b) (p : Addr) (u : Value) : Fx (W.setCell p u) b := ⟨by simpa using h.1, fun j => by simpa using h.2 j⟩
theorem Bx.put {W : World} {b : Nat} {vs : List Value} (h : Bx W b vs) (j : Nat) (u : Value) : Bx (W.setCell ⟨b, j, none⟩ u) b (vs.set j u) := by
  refine ⟨by simpa using h.1, fun i v hi => ?_⟩
  rw [List.getElem?_set] at hi
  by_cases e : j = i
  · subst e
    rw [if_pos rfl] at hi
    by_cases hl : j < vs.length
    · rw [if_pos hl] at hi
      cases hi
      exact World.cell?_setCell_same _ _ _ (h.2 j vs[j] (by simp [hl]))
    · rw [if_neg hl] at hi; cases hi
  · rw [if_neg e] at hi
    exact (World.cell?_setCell_other _ _ _ _ (fun k => e (congrArg Addr.off k))).trans (h.2 i v hi)
/-- block b may be written -/
def Fr (W : World) (b : Nat) : Prop := b < W.heap.size ∧ ∀ j, W.frozen? ⟨b, j, none⟩ = false
theorem gby_trans {w w' w'' : World} {r : Option Nat} (h : w.grownBy w' r) (k : w'.grownBy w'' r) : w.grownBy w'' r :=
  ⟨k.os.trans h.os, k.tape.trans h.tape, k.output.trans h.output, Nat.le_trans h.size k.size, fun i hi hr => (k.block i (Nat.lt_of_lt_of_le hi h.size) hr).trans (h.block i hi hr)⟩
theorem gby_below {w w' : World} (h : Below w.heap.size w w') (r : Option Nat) : w.grownBy w' r := ⟨h.os, h.tape, h.output, h.size, fun i hi _ => h.block i hi⟩
theorem gby_set (w : World) (b j : Nat) (u : Value) : w.grownBy (w.setCell ⟨b, j, none⟩ u) (some b) :=
  ⟨rfl, rfl, rfl, by simp, fun k _ hr => Below.heap_setCell _ _ _ _ fun e => hr (by rw [e])⟩
/-- the reader's cells -/
abbrev rdx (s : ByteArray) (p : Int) (f : Bool) : List Value := [.string s, .int .i64 p, .bool f]
def nxP (s : ByteArray) (p k : Int) : Int := if p + k ≤ s.size then p + k else p
def nxF (s : ByteArray) (p k : Int) (f : Bool) : Bool := if p + k ≤ s.size then f else true
def pieceAt (s : ByteArray) (p k : Int) : ByteArray := if p + k ≤ s.size then s.extract p.toNat (p + k).toNat else ⟨#[]⟩
theorem nxP_in {s : ByteArray} {p k : Int} (h : 0 ≤ p) (h2 : p ≤ s.size) (hk : 0 ≤ k) : 0 ≤ nxP s p k ∧ nxP s p k ≤ s.size := by
  unfold nxP; split <;> omega
structure RxTo (w w' : World) (b : Nat) (s : ByteArray) (p : Int) (f : Bool) : Prop where
  box : Bx w' b (rdx s p f)
  free : Fx w' b
  grown : w.grownBy w' (some b)
theorem RxTo.beyond {w w' W : World} {b : Nat} {s : ByteArray} {p : Int} {f : Bool} {B : Nat} (h : RxTo w w' b s p f) (hb : Below B W w) (hB : B ≤ b) (hw : B ≤ w.heap.size) : Below B W w' :=
  hb.grown h.grown hw (fun k hk => by simp at hk; omega)
set_option maxRecDepth 100000 in
set_option maxHeartbeats 1600000 in
theorem i_rdNumber (s : ByteArray) (p k : Int) (f : Bool) (b : Nat) (w : World) (hA : Bx w b (rdx s p f)) (hF : Fx w b) (hp : 0 ≤ p) (hp2 : p ≤ s.size) (hk : 1 ≤ k) (hk2 : k ≤ 7) (hs2 : s.size ≤ 1099511627776) :
    Calls Tryd.prog 27 #[.pointer (some ⟨b, 0, none⟩), .int .i64 k] w fun e w' => e = .returned (.int .i64 (numAt s p k)) ∧ RxTo w w' b s (nxP s p k) (nxF s p k f) := by
  have C0 : Hid (∀ u : World, Calls Tryd.prog 31 #[.string s, .int .i64 p, .int .i64 k] u fun e w' => e = .returned (.tuple #[.int .i64 (numAt s p k), .bool (okN s p k)]) ∧ w' = u) := fun u => i_NumAt s p k u (by unfold maxLen; omega)
  have HN : Hid (okN s p k = false → numAt s p k = 0) := fun h => by unfold numAt; rw [h]; rfl
  have HK : Hid (okN s p k = decide (p + k ≤ s.size)) := by
    show _ = _
    unfold okN; rw [Bool.eq_iff_iff, decide_eq_true_iff, decide_eq_true_iff]; omega
  have hw : IntKind.i64.wrap (p + k) = p + k := wraps_i64 _ (by omega) (by omega)
  have hne := BW.some w
  have a0 := fun u : BW w => (hA.ofBW u).2 0 _ rfl
  have a1 := fun u : BW w => (hA.ofBW u).2 1 _ rfl
  go_enter Tryd.func27, Tryd.ntmps27
  go_wp2_with fail
  refine wp_region_below (by kernel_rfl) (by kernel_rfl) ?_
  repeat (go_big_quiet_step ((go_at_call 31; exact Calls.into_same (C0.out _))))
  refine wpQuiet_nil ?_
  intro _ hw'
  obtain ⟨u, hw''⟩ := hw'
  subst hw''
  clear a0 a1 hne
  have hbu := u.le
  replace hA := hA.ofBW u
  replace hF := hF.below u.le
  generalize hU : u.u = U at *
  clear hU u
  have a1 := hA.2 1 _ rfl
  have a2 := hA.2 2 _ rfl
  have q1 := hF.2 1
  have q2 := hF.2 2
  by_cases hc : p + k ≤ s.size
  · have HP : Hid (nxP s p k = p + k ∧ nxF s p k f = f) := ⟨if_pos hc, if_pos hc⟩
    rw [decide_eq_true hc] at HK
    rw [HK.out]
    clear HN C0 HK hc
    go_wp2
    go_ret
    rw [HP.out.1, HP.out.2]
    exact ⟨rfl, hA.put 1 _, hF.put _ _, gby_trans (gby_below hbu _) (gby_set _ _ _ _)⟩
  · have HP : Hid (numAt s p k = 0 ∧ nxP s p k = p ∧ nxF s p k f = true) := ⟨HN.out (by rw [HK.out, decide_eq_false hc]), if_neg hc, if_neg hc⟩
    rw [decide_eq_false hc] at HK
    rw [HK.out]
    clear HN C0 HK hc
    go_wp2
    go_ret
    rw [HP.out.1, HP.out.2.1, HP.out.2.2]
    exact ⟨rfl, hA.put 2 _, hF.put _ _, gby_trans (gby_below hbu _) (gby_set _ _ _ _)⟩
set_option maxRecDepth 100000 in
set_option maxHeartbeats 1600000 in
theorem i_rdPiece (s : ByteArray) (p k : Int) (f : Bool) (b : Nat) (w : World) (hA : Bx w b (rdx s p f)) (hF : Fx w b) (hp : 0 ≤ p) (hp2 : p ≤ s.size) (hk : 0 ≤ k) (hk2 : k ≤ 1099511627776) (hs2 : s.size ≤ 1099511627776) :
    Calls Tryd.prog 28 #[.pointer (some ⟨b, 0, none⟩), .int .i64 k] w fun e w' => e = .returned (.string (pieceAt s p k)) ∧ RxTo w w' b s (nxP s p k) (nxF s p k f) := by
  obtain ⟨n, rfl⟩ : ∃ n : Nat, p = (n : Int) := ⟨p.toNat, by omega⟩
  obtain ⟨m, rfl⟩ : ∃ m : Nat, k = (m : Int) := ⟨k.toNat, by omega⟩
  have hne := BW.some w
  have a0 := fun u : BW w => (hA.ofBW u).2 0 _ rfl
  have a1 := fun u : BW w => (hA.ofBW u).2 1 _ rfl
  have hw1 : wrap64 ((s.size : Int) - (n : Int)) = (s.size : Int) - (n : Int) := by unfold wrap64; omega
  go_enter Tryd.func28, Tryd.ntmps28
  go_wp2_with fail
  refine wp_region_below (by kernel_rfl) (by kernel_rfl) ?_
  repeat (go_big_quiet_step (fail))
  refine wpQuiet_nil ?_
  intro _ hw'
  obtain ⟨u, hw''⟩ := hw'
  subst hw''
  clear a0 a1 hne
  have hbu := u.le
  replace hA := hA.ofBW u
  replace hF := hF.below u.le
  generalize hU : u.u = U at *
  clear hU u
  have a1 := hA.2 1 _ rfl
  have a2 := hA.2 2 _ rfl
  have q1 := hF.2 1
  have q2 := hF.2 2
  by_cases hc : (n : Int) + (m : Int) ≤ s.size
  · have HP : Hid (nxP s n m = n + m ∧ nxF s n m f = f ∧ pieceAt s n m = s.extract n (n + m)) := ⟨if_pos hc, if_pos hc, by unfold pieceAt; rw [if_pos hc]; congr 1⟩
    have hc2 : ¬ ((s.size : Int) - (n : Int) < (m : Int)) := by omega
    have hw2 : wrap64 ((n : Int) + (m : Int)) = (n : Int) + (m : Int) := by unfold wrap64; omega
    go_wp2_with fail
    have hA2 := hA.put 1 (.int .i64 ((n : Int) + (m : Int)))
    have hF2 := hF.put ⟨b, 1, none⟩ (.int .i64 ((n : Int) + (m : Int)))
    have hG := gby_trans (gby_below hbu (some b)) (gby_set U b 1 (.int .i64 ((n : Int) + (m : Int))))
    generalize U.setCell ⟨b, 1, none⟩ (.int .i64 ((n : Int) + (m : Int))) = V at *
    clear a1 a2 q1 q2 hA hF
    have hne := BW.some V
    have a0 := fun u : BW V => (hA2.ofBW u).2 0 _ rfl
    have a1 := fun u : BW V => (hA2.ofBW u).2 1 _ rfl
    refine wp_region_below (by kernel_rfl) (by kernel_rfl) ?_
    repeat (go_big_quiet_step (fail))
    go_big_quiet_step (exact Calls.into (c_Clone _ _ (by simp; omega)))
    repeat (go_big_quiet_step (fail))
    refine wpQuiet_nil ?_
    intro _ hw'
    obtain ⟨u, hw''⟩ := hw'
    subst hw''
    clear a0 a1 hne
    go_wp2
    go_ret
    rw [HP.out.1, HP.out.2.1, HP.out.2.2]
    exact ⟨rfl, hA2.ofBW u, hF2.below u.le, gby_trans hG (gby_below u.le _)⟩
  · have HP : Hid (pieceAt s n m = ⟨#[]⟩ ∧ nxP s n m = n ∧ nxF s n m f = true) := ⟨if_neg hc, if_neg hc, if_neg hc⟩
    have hc2 : (s.size : Int) - (n : Int) < (m : Int) := by omega
    clear hc
    go_wp2
    go_ret
    rw [HP.out.1, HP.out.2.1, HP.out.2.2]
    exact ⟨rfl, hA.put 2 _, hF.put _ _, gby_trans (gby_below hbu _) (gby_set _ _ _ _)⟩
end Go.Proofs.YteflhnmoceppgaaDoor
