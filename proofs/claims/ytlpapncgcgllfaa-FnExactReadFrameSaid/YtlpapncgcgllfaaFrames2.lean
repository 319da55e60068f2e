/-
  Contracts of what the exact laws on frames do: sizes, copies, comparisons.
-/
import Derived.Test.YtlpapncgcgllfaaFrames1
namespace Go.Proofs.Ytlpapncgcgllfaa
open Go.RowKit Go.PlainAid

theorem bcell {W w1 : World} (hb : Below W.heap.size W w1) : (∀ b o, b < W.heap.size → w1.cell? ⟨b, o, none⟩ = W.cell? ⟨b, o, none⟩) ∧ (∀ b o, b < W.heap.size → w1.frozen? ⟨b, o, none⟩ = W.frozen? ⟨b, o, none⟩) :=
  ⟨fun b o h => hb.cell (p := ⟨b, o, none⟩) h, fun b o h => hb.frozen (p := ⟨b, o, none⟩) h⟩

theorem take_set (l : List Int) (k : Nat) (h : k < l.length) : (l.take k ++ List.replicate (l.length - k) 0).set k (ia l k) = l.take (k + 1) ++ List.replicate (l.length - (k + 1)) 0 := by
  rw [List.take_succ_eq_append_getElem h, ia_eq l k h, show l.length - k = (l.length - (k + 1)) + 1 by omega, List.replicate_succ]
  rw [List.set_append_right _ _ (by simp; omega)]
  have e : k - (l.take k).length = 0 := by simp; omega
  rw [e, List.append_assoc]; rfl

theorem ownI.mono {w : World} {B B' : Nat} {v : Value} {l : List Int} (h : ownI w B v l) (hB : B' ≤ B) : ownI w B' v l := by
  obtain ⟨h1, h2⟩ := h
  refine ⟨h1, ?_⟩
  rcases h2 with h2 | ⟨g, cap, cur, e, hb, r⟩
  · exact .inl h2
  · exact .inr ⟨g, cap, cur, e, Nat.le_trans hB hb, r⟩
theorem ownI.aside {w : World} {B g n cap : Nat} {l : List Int} (h : ownI w B (.slice (some ⟨g, 0, none⟩) n cap) l) {b j : Nat} (hb : b ≠ g) (u : Value) : ownI (w.setCell ⟨b, j, none⟩ u) B (.slice (some ⟨g, 0, none⟩) n cap) l :=
  ownsRow_setCell_other h (by simp [Value.ownBlock]; omega) u

/-- two lists compared, number by number -/
def eqI (l m : List Int) : Bool := decide (l = m)
set_option maxRecDepth 100000 in
set_option maxHeartbeats 800000 in
theorem l_eqInts (T U : Option Addr) (c e : Nat) (l : List Int) (w : World) (h : IntsAt w T l) (k : IntsAt w U l) (hl : l.length ≤ 1099511627776) :
    Calls Try.prog 31 #[.slice T l.length c, .slice U l.length e] w fun e w' => e = .returned (.bool true) ∧ Below w.heap.size w w' := by
  have hne : ((l.length : Int) != (l.length : Int)) = false := by simp
  go_enter Try.func31, Try.ntmps31
  go_wp2
  go_loopw [5] (fun i wr => ∃ j : Nat, j ≤ l.length ∧ i = .int .i64 (j : Int) ∧ ∃ n, wr = w.drewN n) (fun i _ => ((l.length : Int) - intOf i).toNat)
  case atStart => exact ⟨0, by omega, rfl, 0, rfl⟩
  case round =>
    obtain ⟨j, hj, rfl, n, rfl⟩ := hrel
    by_cases hlt : j < l.length
    · rcases h with h | ⟨g, off, rfl, hg, hc⟩
      · rw [h] at hlt; simp at hlt
      · rcases k with k | ⟨g2, off2, rfl, hg2, hc2⟩
        · rw [k] at hlt; simp at hlt
        · have hcell := hc j hlt
          have hcell2 := hc2 j hlt
          have hj1 : (j : Int) < (l.length : Int) := by omega
          clear hc hc2
          go_wp2
          go_quiet (fail)
          go_wp2
          go_roundw
          case rel => exact ⟨j + 1, by omega, by go_num, _, rfl⟩
          case measure => simp [intOf]; omega
    · go_wp2
      go_ret
      exact ⟨rfl, ⟨rfl, rfl, rfl, Nat.le_refl _, fun _ _ => rfl⟩⟩

set_option maxRecDepth 100000 in
set_option maxHeartbeats 800000 in
theorem l_eqFrame (d s : Int) (T U : Option Addr) (c e : Nat) (l : List Int) (t : Int) (x : ByteArray) (w : World) (h : IntsAt w T l) (k : IntsAt w U l) (hl : l.length ≤ 1099511627776) :
    Calls Try.prog 9 #[.agg #[.int .i64 d, .int .i64 s, .slice T l.length c, .int .i64 t, .string x], .agg #[.int .i64 d, .int .i64 s, .slice U l.length e, .int .i64 t, .string x]] w fun e w' => e = .returned (.bool true) ∧ Below w.heap.size w w' := by
  go_enter Try.func9, Try.ntmps9
  go_wp2_with fail
  refine (l_eqInts T U c e l _ ((h.alloc _).alloc _) ((k.alloc _).alloc _) hl).mono ?_
  rintro e w1 ⟨rfl, hb⟩
  have hB : Below w.heap.size w w1 := (((Below.refl _ w).alloc (Nat.le_refl _) _).alloc (by simp) _).trans (hb.mono (by simp; omega))
  obtain ⟨hc, hf⟩ := bcell hb
  clear hb
  go_wp2
  go_ret
  exact ⟨rfl, hB⟩
end Go.Proofs.Ytlpapncgcgllfaa
