/-
  Contracts of what the exact laws do to a frame's tags: marking them, and asking whether the marks are held.
-/
import Derived.Test.YtlpapncgcgllfaaFrames7
namespace Go.Proofs.Ytlpapncgcgllfaa
open Go.RowKit Go.PlainAid
/-- 1, 2, .. n -/
def ups (n : Nat) : List Int := (List.range n).map fun (i : Nat) => (i : Int) + 1
theorem ups_length (n : Nat) : (ups n).length = n := by simp [ups]
theorem ups_at (n i : Nat) (h : i < n) : ia (ups n) i = (i : Int) + 1 := by rw [ia_eq _ _ (by rw [ups_length]; exact h)]; simp [ups]
def upd (l : List Int) (j : Nat) : List Int := (List.range l.length).map fun i => if i < j then (i : Int) + 1 else ia l i
theorem upd_length (l : List Int) (j : Nat) : (upd l j).length = l.length := by simp [upd]
theorem upd_zero (l : List Int) : upd l 0 = l := by
  refine List.ext_getElem (by rw [upd_length]) fun i h1 h2 => ?_
  simp [upd, ia_eq l i h2]
theorem upd_all (l : List Int) : upd l l.length = ups l.length := by
  unfold upd ups
  refine List.map_congr_left fun i hi => ?_
  rw [List.mem_range] at hi
  rw [if_pos hi]
theorem upd_set (l : List Int) (j : Nat) : (upd l j).set j ((j : Int) + 1) = upd l (j + 1) := by
  refine List.ext_getElem (by rw [List.length_set, upd_length, upd_length]) fun i h1 h2 => ?_
  rw [List.getElem_set]
  by_cases e : j = i
  · subst e; rw [if_pos rfl]; simp [upd]
  · rw [if_neg e]; simp only [upd, List.getElem_map, List.getElem_range]
    by_cases h : i < j
    · rw [if_pos h, if_pos (by omega)]
    · rw [if_neg h, if_neg (by omega)]

theorem grownBy_drewN {w w' : World} {r : Option Nat} (h : w.grownBy w' r) (n : Nat) : w.grownBy (w'.drewN n) r := ⟨h.os, h.tape, h.output, h.size, h.block⟩
theorem grownBy_trans {w w' w'' : World} {r : Option Nat} (h : w.grownBy w' r) (k : w'.grownBy w'' r) : w.grownBy w'' r :=
  ⟨k.os.trans h.os, k.tape.trans h.tape, k.output.trans h.output, Nat.le_trans h.size k.size, fun i hi hr => (k.block i (Nat.lt_of_lt_of_le hi h.size) hr).trans (h.block i hi hr)⟩
theorem Below.by {w w' : World} (h : Below w.heap.size w w') (r : Option Nat) : w.grownBy w' r := ⟨h.os, h.tape, h.output, h.size, fun i hi _ => h.block i hi⟩
theorem grownBy_below {w w' : World} {r : Option Nat} {B : Nat} (h : w.grownBy w' r) (hB : B ≤ w.heap.size) (hr : ∀ k, r = some k → B ≤ k) : Below B w w' :=
  ⟨h.os, h.tape, h.output, h.size, fun i hi => h.block i (Nat.lt_of_lt_of_le hi hB) fun e => by have := hr i e.symm; omega⟩
theorem Box.by {w w' : World} {r : Option Nat} {b : Nat} {vs : List Value} (h : Box w b vs) (k : w.grownBy w' r) (hr : ∀ i, r = some i → i ≠ b) : Box w' b vs :=
  ⟨Nat.lt_of_lt_of_le h.1 k.size, fun i v hi => (World.cell?_of_block (w := w) (k.block b h.1 fun e => hr b e.symm rfl)).trans (h.2 i v hi)⟩
theorem ownI.form {w : World} {B : Nat} {v : Value} {l : List Int} (h : ownI w B v l) : ∃ T c, v = .slice T l.length c := by
  rcases h.shape with ⟨rfl, rfl⟩ | ⟨g, cap, rfl, _⟩
  · exact ⟨none, 0, rfl⟩
  · exact ⟨_, _, rfl⟩
/-- a row of the call's own, and between which blocks -/
structure InI (w : World) (lo hi : Nat) (v : Value) (l : List Int) : Prop where
  own : ownI w lo v l
  at' : ∀ k, v.ownBlock = some k → lo ≤ k ∧ k < hi
  le : hi ≤ w.heap.size
theorem ownI.in {w : World} {B : Nat} {v : Value} {l : List Int} (h : ownI w B v l) : InI w B w.heap.size v l := by
  refine ⟨h, ?_, Nat.le_refl _⟩
  rcases h.shape with ⟨rfl, _⟩ | ⟨g, cap, rfl, h1, h2, _⟩
  · intro k hk; cases hk
  · intro k hk; cases hk; exact ⟨h1, h2⟩
theorem InI.below {w w' : World} {lo hi N : Nat} {v : Value} {l : List Int} (h : InI w lo hi v l) (hb : Below N w w') (hN : hi ≤ N) : InI w' lo hi v l := by
  refine ⟨?_, h.at', Nat.le_trans h.le hb.size⟩
  obtain ⟨h1, h2⟩ := h.own
  refine ⟨h1, ?_⟩
  rcases h2 with h2 | ⟨g, cap, cur, e, hB, hh, r⟩
  · exact .inl h2
  · exact .inr ⟨g, cap, cur, e, hB, (hb.block g (Nat.lt_of_lt_of_le (h.at' g (by rw [e]; rfl)).2 hN)).trans hh, r⟩
theorem InI.by {w w' : World} {lo hi : Nat} {v : Value} {l : List Int} {r : Option Nat} (h : InI w lo hi v l) (hb : w.grownBy w' r) (hr : ∀ k, r = some k → k < lo ∨ hi ≤ k) : InI w' lo hi v l := by
  refine ⟨?_, h.at', Nat.le_trans h.le hb.size⟩
  obtain ⟨h1, h2⟩ := h.own
  refine ⟨h1, ?_⟩
  rcases h2 with h2 | ⟨g, cap, cur, e, hB, hh, r2⟩
  · exact .inl h2
  · have := h.at' g (by rw [e]; rfl)
    refine .inr ⟨g, cap, cur, e, hB, (hb.block g (lt_of_block hh) fun e' => ?_).trans hh, r2⟩
    have := hr g e'.symm
    omega

set_option maxRecDepth 100000 in
set_option maxHeartbeats 400000 in
theorem l_markInts (B : Nat) (v : Value) (l : List Int) (w : World) (h : ownI w B v l) (hl : l.length ≤ 1099511627776) :
    Calls Try.prog 32 #[v, .int .i64 1] w fun e w' => e = .returned (.int .i64 ((l.length : Int) + 1)) ∧ ownI w' B v (ups l.length) ∧ w.grownBy w' v.ownBlock := by
  rcases h.shape with ⟨rfl, rfl⟩ | ⟨g, cap, rfl, hg, _⟩
  · go_enter Try.func32, Try.ntmps32
    go_wp2
    go_loopw [1, 5] (fun k i wr => k = .int .i64 1 ∧ i = .int .i64 0 ∧ wr = w) (fun _ _ _ => 0)
    case atStart => exact ⟨rfl, rfl, rfl⟩
    case round =>
      obtain ⟨rfl, rfl, rfl⟩ := hrel
      go_wp2
      go_ret
      exact ⟨rfl, ownI.nil _ _, World.grownBy.refl _ _⟩
  · go_enter Try.func32, Try.ntmps32
    go_wp2
    go_loopw [1, 5] (fun k i wr => ∃ j : Nat, j ≤ l.length ∧ k = .int .i64 ((j : Int) + 1) ∧ i = .int .i64 (j : Int) ∧ ownI wr B (.slice (some ⟨g, 0, none⟩) l.length cap) (upd l j) ∧ w.grownBy wr (some g)) (fun _ i _ => ((l.length : Int) - intOf i).toNat)
    case atStart => exact ⟨0, by omega, rfl, rfl, by rw [upd_zero]; exact h, World.grownBy.refl _ _⟩
    case round =>
      clear h
      obtain ⟨j, hj, rfl, rfl, hown, hb⟩ := hrel
      by_cases hlt : j < l.length
      · have hcell2 := hown.cell (upd_length l j) j hlt
        have hfr := hown.frozen (upd_length l j) j
        have hst := hown.stored (upd_length l j) j ((j : Int) + 1)
        rw [upd_set l j] at hst
        have HS : Hid (ownI (wr.setCell ⟨g, j, none⟩ (.int .i64 ((j : Int) + 1))) B (.slice (some ⟨g, 0, none⟩) l.length cap) (upd l (j + 1)) ∧ w.grownBy (wr.setCell ⟨g, j, none⟩ (.int .i64 ((j : Int) + 1))) (some g)) := ⟨hst, grownBy_trans hb (by
          have := World.ownsRow.stored (n := l.length) (xs := icells (upd l j)) (by have := hown; unfold ownI at this; rw [upd_length] at this; exact this) j (.int .i64 ((j : Int) + 1))
          exact this.2)⟩
        clear hst hown hb
        go_wp2
        go_roundw
        case rel => exact ⟨j + 1, by omega, by go_num, by go_num, HS.out.1, HS.out.2⟩
        case measure => simp [intOf]; omega
      · have hkl : j = l.length := by omega
        subst hkl
        rw [upd_all] at hown
        go_wp2
        go_ret
        exact ⟨rfl, hown, hb⟩

set_option maxRecDepth 100000 in
set_option maxHeartbeats 400000 in
theorem l_heldInts (T : Option Addr) (n c : Nat) (w : World) (h : IntsAt w T (ups n)) (hl : n ≤ 1099511627776) :
    Calls Try.prog 33 #[.slice T n c, .int .i64 1] w fun e w' => e = .returned (.int .i64 ((n : Int) + 1)) ∧ Below w.heap.size w w' := by
  go_enter Try.func33, Try.ntmps33
  go_wp2
  go_loopw [1, 5] (fun k i wr => ∃ j : Nat, j ≤ n ∧ k = .int .i64 ((j : Int) + 1) ∧ i = .int .i64 (j : Int) ∧ ∃ m, wr = w.drewN m) (fun _ i _ => ((n : Int) - intOf i).toNat)
  case atStart => exact ⟨0, by omega, rfl, rfl, 0, rfl⟩
  case round =>
    obtain ⟨j, hj, rfl, rfl, m, rfl⟩ := hrel
    by_cases hlt : j < n
    · rcases h with h | ⟨g, off, rfl, hg, hc⟩
      · have := congrArg List.length h; rw [ups_length] at this; simp at this; omega
      · have hcell := hc j (by rw [ups_length]; exact hlt)
        rw [ups_at n j hlt] at hcell
        clear hc
        go_wp2
        go_roundw
        case rel => exact ⟨j + 1, by omega, by go_num, by go_num, _, rfl⟩
        case measure => simp [intOf]; omega
    · have hkl : j = n := by omega
      subst hkl
      go_wp2
      go_ret
      exact ⟨rfl, ⟨rfl, rfl, rfl, Nat.le_refl _, fun _ _ => rfl⟩⟩

set_option maxRecDepth 100000 in
set_option maxHeartbeats 400000 in
theorem l_markFrame (d s : Int) (lo hi : Nat) (v : Value) (l : List Int) (t : Int) (x : ByteArray) (w : World) (h : InI w lo hi v l) (hl : l.length ≤ 1099511627776) :
    Calls Try.prog 10 #[.agg #[.int .i64 d, .int .i64 s, v, .int .i64 t, .string x], .int .i64 1] w fun e w' => e = .returned (.int .i64 ((l.length : Int) + 1)) ∧ InI w' lo hi v (ups l.length) ∧ w.grownBy w' v.ownBlock := by
  rcases h.own.shape with ⟨rfl, rfl⟩ | ⟨g, cap, rfl, _⟩
  all_goals
    go_enter Try.func10, Try.ntmps10
    go_wp2_with fail
    refine (l_markInts lo _ _ _ (h.own.alloc _) hl).mono ?_
    rintro e w1 ⟨rfl, hown, hg⟩
    have hG := grownBy_trans (World.grownBy_alloc w _ _) hg
    go_wp2
    go_ret
    exact ⟨rfl, ⟨hown, h.at', Nat.le_trans h.le hG.size⟩, hG⟩

set_option maxRecDepth 100000 in
set_option maxHeartbeats 400000 in
theorem l_heldFrame (d s : Int) (v : Value) (n lo hi : Nat) (t : Int) (x : ByteArray) (w : World) (h : InI w lo hi v (ups n)) (hl : n ≤ 1099511627776) :
    Calls Try.prog 11 #[.agg #[.int .i64 d, .int .i64 s, v, .int .i64 t, .string x], .int .i64 1] w fun e w' => e = .returned (.int .i64 ((n : Int) + 1)) ∧ Below w.heap.size w w' := by
  have hb0 := (Below.refl w.heap.size w).alloc (Nat.le_refl _) (.cells #[.int .i64 d, .int .i64 s, v, .int .i64 t, .string x] 24)
  have hs := (h.own.alloc (.cells #[.int .i64 d, .int .i64 s, v, .int .i64 t, .string x] 24)).src
  obtain ⟨T, c, rfl⟩ : ∃ T c, v = .slice T n c := by
    rcases h.own.shape with ⟨rfl, hk⟩ | ⟨g, cap, rfl, _⟩
    · have := congrArg List.length hk; rw [ups_length] at this; simp at this; subst this; exact ⟨none, 0, rfl⟩
    · rw [ups_length]; exact ⟨_, _, rfl⟩
  have hi2 := hs.ints.2
  clear hs
  go_enter Try.func11, Try.ntmps11
  go_wp2_with fail
  refine (l_heldInts T n c _ hi2 hl).mono ?_
  rintro e w1 ⟨rfl, hb⟩
  have hB := hb0.trans (hb.mono (by simp))
  go_wp2
  go_ret
  exact ⟨rfl, hB⟩
end Go.Proofs.Ytlpapncgcgllfaa
