/-
  Contracts of MacText, of the program and of the model.
-/
import Derived.Test.YtlpapncgcgllfaaWalks6
import Derived.Test.YtlpapncgcgllfaaStrs
namespace Go.Proofs.Ytlpapncgcgllfaa
open Go.RowKit Go.PlainAid
/-- whether a number is an address -/
def macB (n : Int) : Bool := inB n 0 281474976710655
theorem i_isMac (n : Int) (w : World) : Calls Try.prog 44 #[.int .i64 n] w fun e w' => e = .returned (.bool (macB n)) ∧ w' = w := by
  by_cases h1 : 0 ≤ n
  · by_cases h2 : n < 281474976710656
    all_goals
      go_enter Try.func44, Try.ntmps44
      go_wp2
      go_ret
      exact ⟨ret_bool (by unfold macB inB; rw [Bool.eq_iff_iff]; simp; omega), rfl⟩
  · go_enter Try.func44, Try.ntmps44
    go_wp2
    go_ret
    exact ⟨ret_bool (by unfold macB inB; rw [Bool.eq_iff_iff]; simp; omega), rfl⟩
theorem s_Mac (n : Int) (w : World) : Calls Try.prog 43 #[.int .i64 n] w fun e w' => e = .returned (.bool (macB n)) ∧ w' = w := by
  go_enter Try.func43, Try.ntmps43
  go_wp2_with (go_at_call 42; refine (s_In _ _ _ _).mono ?_; rintro e w' ⟨rfl, rfl⟩)
  go_ret
  exact ⟨rfl, rfl⟩
/-- a colon ahead of each two digits -/
def colon : List UInt8 → List UInt8
  | a :: b :: l => 58 :: a :: b :: colon l
  | _ => []
theorem colon_append : ∀ l m : List UInt8, l.length % 2 = 0 → colon (l ++ m) = colon l ++ colon m
  | [], m, _ => rfl
  | [a], m, h => by simp at h
  | a :: b :: l, m, h => by simp only [List.cons_append, colon, colon_append l m (by simp at h; omega)]
theorem colon_length : ∀ l : List UInt8, (colon l).length = l.length / 2 * 3
  | [] => rfl
  | [a] => by simp [colon]
  | a :: b :: l => by simp only [colon, List.length_cons, colon_length l]; omega
/-- digits with colons: the first j + 1 pairs -/
def macP (h : List UInt8) (j : Nat) : List UInt8 := h.take 2 ++ colon ((h.drop 2).take (2 * j))
theorem macP_length (h : List UInt8) (hl : h.length = 12) (j : Nat) (hj : j ≤ 5) : (macP h j).length = 2 + 3 * j := by
  unfold macP; rw [List.length_append, colon_length]; simp; omega
theorem macP_step (h : List UInt8) (hl : h.length = 12) (j : Nat) (hj : j < 5) : str (macP h j) ++ (⟨#[58]⟩ ++ (str h).extract (2 + 2 * j) (2 + 2 * j + 2)) = str (macP h (j + 1)) := by
  have e : (⟨#[58]⟩ : ByteArray) = str [58] := rfl
  rw [str_extract, e, str_app, str_app, show 2 + 2 * j + 2 - (2 + 2 * j) = 2 by omega]
  apply congrArg str
  match h, hl with
  | [a, b, c, d, e, f, g, i, k, l, m, n], _ =>
    have : j = 0 ∨ j = 1 ∨ j = 2 ∨ j = 3 ∨ j = 4 := by omega
    rcases this with rfl | rfl | rfl | rfl | rfl <;> rfl
theorem macP_step' (h : List UInt8) (hl : h.length = 12) (j : Nat) (hj : j < 5) : str (macP h j) ++ ⟨#[58]⟩ ++ (str h).extract (2 + 2 * j) (2 + 2 * j + 2) = str (macP h (j + 1)) := by
  rw [← macP_step h hl j hj]
  have e : (⟨#[58]⟩ : ByteArray) = str [58] := rfl
  rw [str_extract, e, str_app, str_app, str_app, str_app, List.append_assoc]
/-- the text of an address -/
def macText (n : Int) : List UInt8 := if macB n then macP (hexOf (be 6 n)) 5 else []
theorem macText_yes {n : Int} (h : macB n = true) : macText n = macP (hexOf (be 6 n)) 5 := by unfold macText; rw [if_pos h]
theorem macText_no {n : Int} (h : macB n = false) : macText n = [] := by unfold macText; rw [h]; rfl

end Go.Proofs.Ytlpapncgcgllfaa
