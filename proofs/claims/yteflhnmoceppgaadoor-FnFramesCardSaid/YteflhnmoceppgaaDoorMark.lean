/-
  The text of a mark.
-/
import Derived.Test.YteflhnmoceppgaaDoorRecsV
import Derived.Test.YteflhnmoceppgaaDoorStrs
namespace Go.Proofs.YteflhnmoceppgaaDoor
open Go.RowKit Go.PlainAid
def mdigs : Nat → Nat → List UInt8
  | 0, _ => []
  | f + 1, k => if k = 0 then [] else mdigs f (k / 10) ++ [UInt8.ofNat (48 + k % 10)]
theorem mdigs_fuel : ∀ f f' k, k ≤ f → k ≤ f' → mdigs f k = mdigs f' k := by
  intro f
  induction f with
  | zero =>
    intro f' k h h'
    have : k = 0 := by omega
    subst this
    cases f' with
    | zero => rfl
    | succ f' => simp [mdigs]
  | succ f ih =>
    intro f' k h h'
    cases f' with
    | zero =>
      have : k = 0 := by omega
      subst this; simp [mdigs]
    | succ f' =>
      unfold mdigs
      by_cases hk : k = 0
      · rw [if_pos hk, if_pos hk]
      · rw [if_neg hk, if_neg hk, ih f' (k / 10) (by omega) (by omega)]
def dg (k : Nat) : List UInt8 := mdigs k k
theorem dg_step {k : Nat} (h : 0 < k) : dg k = dg (k / 10) ++ [UInt8.ofNat (48 + k % 10)] := by
  unfold dg
  obtain ⟨n, rfl⟩ : ∃ n, k = n + 1 := ⟨k - 1, by omega⟩
  conv => lhs; unfold mdigs
  rw [if_neg (by omega), mdigs_fuel n ((n + 1) / 10) _ (by omega) (by omega)]
theorem mdigs_len : ∀ f k, (mdigs f k).length ≤ f := by
  intro f
  induction f with
  | zero => intro k; simp [mdigs]
  | succ f ih =>
    intro k; unfold mdigs; split
    · simp
    · rw [List.length_append]; have := ih (k / 10); simp; omega
def mkT (k : Nat) : ByteArray := str (109 :: dg k)
theorem mkT_size (k : Nat) : (mkT k).size ≤ k + 1 := by
  unfold mkT dg; rw [str_size]; have := mdigs_len k k; simp; omega
theorem one_byte (w : World) (c : UInt8) : (convert 22 9 (.slice (some ⟨w.heap.size, 0, none⟩) 1 1)).run Tryd.prog (w.alloc (.cells #[.int .u8 (c.toNat : Int)] 5)) = .ok (.string ⟨#[c]⟩) (w.alloc (.cells #[.int .u8 (c.toNat : Int)] 5)) := by
  have h : ownB (w.alloc (.cells #[.int .u8 (c.toNat : Int)] 5)) w.heap.size (.slice (some ⟨w.heap.size, 0, none⟩) 1 1) [c] := World.ownsRow_lit w #[.int .u8 (c.toNat : Int)] 1 (Nat.le_refl _) (by decide) rfl
  exact run_string_own h
end Go.Proofs.YteflhnmoceppgaaDoor
