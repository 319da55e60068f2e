/-
  Options that are read of a Geneve: plain facts.
-/
import Derived.Test.YtnheppkjeoiipaaGnv4
import Derived.Test.YtnheppkjeoiipaaRdr
namespace Go.Proofs.Ytnheppkjeoiipaa
open Go.RowKit Go.PlainAid
theorem numV_bd (s : ByteArray) (p : Int) (k : Nat) : 0 ≤ numAt s p k ∧ numAt s p k < 256 ^ k := by
  unfold numAt; split
  · have := num_bounds (((bl s).drop p.toNat).take (k : Int).toNat)
    have hl : (((bl s).drop p.toNat).take (k : Int).toNat).length ≤ k := by rw [List.length_take]; exact Nat.le_trans (Nat.min_le_left _ _) (by simp)
    exact ⟨this.1, Int.lt_of_lt_of_le this.2 (ipow_le hl)⟩
  · exact ⟨by omega, Int.pow_pos (by decide)⟩
theorem num1_bd (s : ByteArray) (p : Int) : 0 ≤ numAt s p 1 ∧ numAt s p 1 ≤ 255 := by
  have := numV_bd s p 1
  have e : ((1 : Nat) : Int) = 1 := rfl
  rw [e] at this
  have e2 : (256 : Int) ^ 1 = 256 := by decide
  omega
theorem num2_bd (s : ByteArray) (p : Int) : 0 ≤ numAt s p 2 ∧ numAt s p 2 ≤ 65535 := by
  have := numV_bd s p 2
  have e : ((2 : Nat) : Int) = 2 := rfl
  rw [e] at this
  have e2 : (256 : Int) ^ 2 = 65536 := by decide
  omega
theorem num3_bd (s : ByteArray) (p : Int) : 0 ≤ numAt s p 3 ∧ numAt s p 3 ≤ 16777215 := by
  have := numV_bd s p 3
  have e : ((3 : Nat) : Int) = 3 := rfl
  rw [e] at this
  have e2 : (256 : Int) ^ 3 = 16777216 := by decide
  omega
def opN (s : ByteArray) (x : Nat) : Nat := 4 * (numAt s ((x : Int) + 3) 1).toNat
theorem opN_le (s : ByteArray) (x : Nat) : opN s x ≤ 1020 := by have := num1_bd s ((x : Int) + 3); unfold opN; omega
theorem opN_eq (s : ByteArray) (x : Nat) : 4 * numAt s ((x : Int) + 3) 1 = (opN s x : Int) := by have := num1_bd s ((x : Int) + 3); unfold opN; omega
def opGet (s : ByteArray) (x : Nat) : OpV := ⟨numAt s x 2, numAt s ((x : Int) + 2) 1, s.extract (x + 4) (x + 4 + opN s x)⟩
def stepOk (s : ByteArray) (E x : Nat) : Bool := decide (x + 4 + opN s x ≤ E)
def gops (s : ByteArray) (E : Nat) : Nat → Nat → List OpV × Bool
  | 0, _ => ([], false)
  | f + 1, x => if x = E then ([], true) else if stepOk s E x then (opGet s x :: (gops s E f (x + 4 + opN s x)).1, (gops s E f (x + 4 + opN s x)).2) else ([], false)
theorem gops_fuel (s : ByteArray) (E : Nat) : ∀ f f' x, x ≤ E → E - x < f → E - x < f' → gops s E f x = gops s E f' x := by
  intro f
  induction f with
  | zero => intro f' x h h1 h2; omega
  | succ f ih =>
    intro f' x h h1 h2
    cases f' with
    | zero => omega
    | succ f' =>
      unfold gops
      by_cases hx : x = E
      · rw [if_pos hx, if_pos hx]
      · rw [if_neg hx, if_neg hx]
        cases hs : stepOk s E x
        · rfl
        · have hs' : x + 4 + opN s x ≤ E := of_decide_eq_true hs
          rw [ih f' _ hs' (by omega) (by omega)]
def gL (s : ByteArray) (E x : Nat) : List OpV × Bool := gops s E (E - x + 1) x
theorem gL_done (s : ByteArray) (E : Nat) : gL s E E = ([], true) := by
  unfold gL; rw [Nat.sub_self]; unfold gops; rw [if_pos rfl]
theorem gL_bad {s : ByteArray} {E x : Nat} (h : x ≠ E) (hs : stepOk s E x = false) : gL s E x = ([], false) := by
  unfold gL gops; rw [if_neg h, hs]; rfl
theorem gL_step {s : ByteArray} {E x : Nat} (hs : stepOk s E x = true) : gL s E x = (opGet s x :: (gL s E (x + 4 + opN s x)).1, (gL s E (x + 4 + opN s x)).2) := by
  have hs' : x + 4 + opN s x ≤ E := of_decide_eq_true hs
  have hx : x ≠ E := by omega
  unfold gL
  rw [show E - x + 1 = (E - x) + 1 from rfl]
  conv => lhs; unfold gops
  rw [if_neg hx, hs]
  rw [gops_fuel s E (E - x) (E - (x + 4 + opN s x) + 1) _ hs' (by omega) (by omega)]
  rfl
/-- by rounds -/
theorem gL_ind (s : ByteArray) (E : Nat) (P : Nat → List OpV → Bool → Prop) (h1 : P E [] true) (h2 : ∀ x, x ≤ E → x ≠ E → stepOk s E x = false → P x [] false)
    (h3 : ∀ x l b, stepOk s E x = true → P (x + 4 + opN s x) l b → P x (opGet s x :: l) b) : ∀ n x, x ≤ E → E - x ≤ n → P x (gL s E x).1 (gL s E x).2 := by
  intro n
  induction n with
  | zero =>
    intro x h hn
    have : x = E := by omega
    subst this
    rw [gL_done]; exact h1
  | succ n ih =>
    intro x h hn
    by_cases hx : x = E
    · subst hx; rw [gL_done]; exact h1
    · cases hs : stepOk s E x
      · rw [gL_bad hx hs]; exact h2 x h hx hs
      · rw [gL_step hs]
        have hs' : x + 4 + opN s x ≤ E := of_decide_eq_true hs
        exact h3 x _ _ hs (ih _ hs' (by omega))
theorem gL_sum (s : ByteArray) (E x : Nat) (h : x ≤ E) (hE : E ≤ s.size) : opSum (gL s E x).1 ≤ E - x ∧ ((gL s E x).2 = true → opSum (gL s E x).1 = E - x) ∧ ((gL s E x).2 = false → opSum (gL s E x).1 < E - x) := by
  have := gL_ind s E (fun x l b => x ≤ E → opSum l ≤ E - x ∧ (b = true → opSum l = E - x) ∧ (b = false → opSum l < E - x)) ?_ ?_ ?_ (E - x) x h (Nat.le_refl _) h
  · exact this
  · intro _; exact ⟨by simp [opSum, totV], fun _ => by simp [opSum, totV], fun h => by cases h⟩
  · intro x hx hne _ _; exact ⟨by simp [opSum, totV], fun h => (by cases h), fun _ => (by simp [opSum, totV]; omega)⟩
  · intro x l b hs ih _
    have hs' : x + 4 + opN s x ≤ E := of_decide_eq_true hs
    obtain ⟨i1, i2, i3⟩ := ih hs'
    have e : opSum (opGet s x :: l) = (4 + opN s x) + opSum l := by
      show (4 + (s.extract (x + 4) (x + 4 + opN s x)).size) + opSum l = _
      rw [ByteArray.size_extract]; omega
    rw [e]
    exact ⟨by omega, fun hb => by have := i2 hb; omega, fun hb => by have := i3 hb; omega⟩
/-! the same of a piece -/
theorem numAt_piece (s : ByteArray) (a E x k : Nat) (hE : E ≤ s.size) (h : a + (x + k) ≤ E) : numAt (s.extract a E) x k = numAt s ((x + a : Nat) : Int) k := by
  have hsz : (s.extract a E).size = E - a := by rw [ByteArray.size_extract]; omega
  unfold numAt
  have e1 : okN (s.extract a E) x k = okN s ((x + a : Nat) : Int) k := by
    unfold okN; rw [Bool.eq_iff_iff, decide_eq_true_iff, decide_eq_true_iff, hsz]; omega
  rw [e1]
  have e2 : bl (s.extract a E) = ((bl s).drop a).take (E - a) := by
    have := str_extract (bl s) a E
    rw [str_bl] at this; rw [this]
  rw [e2]
  simp only [Int.toNat_natCast]
  rw [List.drop_take, List.drop_drop, List.take_take, show min k (E - a - x) = k by omega, show a + x = x + a by omega]
theorem opN_piece (s : ByteArray) (a E x : Nat) (hE : E ≤ s.size) (h : a + (x + 4) ≤ E) : opN (s.extract a E) x = opN s (x + a) := by
  unfold opN
  have := numAt_piece s a E (x + 3) 1 hE (by omega)
  have e1 : ((x + 3 : Nat) : Int) = (x : Int) + 3 := by omega
  have e2 : ((x + 3 + a : Nat) : Int) = ((x + a : Nat) : Int) + 3 := by omega
  rw [e1, e2] at this
  rw [show numAt (s.extract a E) ((x : Int) + 3) 1 = numAt s (((x + a : Nat) : Int) + 3) 1 from this]
theorem ext_ext (s : ByteArray) (a E x y : Nat) (h : a + y ≤ E) : (s.extract a E).extract x y = s.extract (x + a) (y + a) := by
  have h1 := str_extract (bl s) a E
  rw [str_bl] at h1
  have h2 := str_extract (bl s) (x + a) (y + a)
  rw [str_bl] at h2
  rw [h1, str_extract, h2, List.drop_take, List.drop_drop, List.take_take]
  congr 2
  · congr 1; omega
  · congr 1; omega
theorem gL_piece (s : ByteArray) (a E : Nat) (haE : a ≤ E) (hE : E ≤ s.size) : ∀ n x, x + a ≤ E → E - (x + a) ≤ n → gL (s.extract a E) (E - a) x = gL s E (x + a) := by
  intro n
  induction n with
  | zero =>
    intro x h hn
    have e1 : x = E - a := by omega
    have e2 : x + a = E := by omega
    rw [e2, ← e1, gL_done, gL_done]
  | succ n ih =>
    intro x h hn
    by_cases hx : x + a = E
    · have e1 : x = E - a := by omega
      rw [hx, ← e1, gL_done, gL_done]
    · have hx2 : x ≠ E - a := by omega
      by_cases h4 : x + a + 4 ≤ E
      · have hN := opN_piece s a E x hE (by omega)
        have hst : stepOk (s.extract a E) (E - a) x = stepOk s E (x + a) := by
          unfold stepOk; rw [hN, Bool.eq_iff_iff, decide_eq_true_iff, decide_eq_true_iff]; omega
        cases hs : stepOk s E (x + a)
        · rw [gL_bad hx hs, gL_bad hx2 (hst.trans hs)]
        · have hs' : x + a + 4 + opN s (x + a) ≤ E := of_decide_eq_true hs
          rw [gL_step hs, gL_step (hst.trans hs), hN]
          have ihh := ih (x + 4 + opN s (x + a)) (by omega) (by omega)
          rw [show x + 4 + opN s (x + a) + a = x + a + 4 + opN s (x + a) by omega] at ihh
          rw [ihh]
          have eg : opGet (s.extract a E) x = opGet s (x + a) := by
            unfold opGet
            have n1 := numAt_piece s a E x 2 hE (by omega)
            have n2 := numAt_piece s a E (x + 2) 1 hE (by omega)
            have e1 : ((x + 2 : Nat) : Int) = (x : Int) + 2 := by omega
            have e2 : ((x + 2 + a : Nat) : Int) = ((x + a : Nat) : Int) + 2 := by omega
            rw [e1, e2] at n2
            have n1' : numAt (s.extract a E) (x : Int) 2 = numAt s ((x + a : Nat) : Int) 2 := n1
            have n2' : numAt (s.extract a E) ((x : Int) + 2) 1 = numAt s (((x + a : Nat) : Int) + 2) 1 := n2
            rw [n1', n2', hN, ext_ext s a E _ _ (by omega), show x + 4 + a = x + a + 4 by omega, show x + 4 + opN s (x + a) + a = x + a + 4 + opN s (x + a) by omega]
          rw [eg]
      · have s1 : stepOk s E (x + a) = false := by unfold stepOk; rw [decide_eq_false]; omega
        have s2 : stepOk (s.extract a E) (E - a) x = false := by unfold stepOk; rw [decide_eq_false]; omega
        rw [gL_bad hx s1, gL_bad hx2 s2]
/-! what is read -/
def rgE (s : ByteArray) : Nat := 8 + 4 * (numAt s 0 1).toNat
theorem rgE_eq (s : ByteArray) : (rgE s : Int) = 8 + 4 * numAt s 0 1 := by have := num1_bd s 0; unfold rgE; omega
theorem rgE_bd (s : ByteArray) : 8 ≤ rgE s ∧ rgE s ≤ 1028 := by have := num1_bd s 0; unfold rgE; omega
def rgO (s : ByteArray) : List OpV := (gL s (rgE s) 8).1
def rgD (s : ByteArray) : ByteArray := s.extract (rgE s) s.size
def opUn (a : OpV) : Bool := decide (128 ≤ a.typ) && decide (a.cls ≠ 259)
def opsUn (l : List OpV) : Bool := l.any opUn
def rgF (net : Int) (l : List OpV) (data s : ByteArray) : Int := if str (gvText net l data) = s then (if opsUn l then 3 else 0) else 2
def rgC (s : ByteArray) : Int := if rgE s ≤ s.size then rgF (numAt s 4 3) (rgO s) (rgD s) s else 1
def rgOk (s : ByteArray) : Bool := decide (rgC s = 0) || decide (rgC s = 3)
def rgN (s : ByteArray) : Int := if rgOk s then numAt s 4 3 else 0
def rgR (s : ByteArray) : List OpV := if rgOk s then rgO s else []
def rgT (s : ByteArray) : ByteArray := if rgOk s then rgD s else ⟨#[]⟩
theorem rg_yes {s : ByteArray} {k : Int} (h : rgC s = k) (hk : k = 0 ∨ k = 3) : rgN s = numAt s 4 3 ∧ rgR s = rgO s ∧ rgT s = rgD s ∧ rgC s = k := by
  have : rgOk s = true := by unfold rgOk; rw [h]; rcases hk with rfl | rfl <;> decide
  unfold rgN rgR rgT; rw [this]; exact ⟨rfl, rfl, rfl, h⟩
theorem rg_no {s : ByteArray} {k : Int} (h : rgC s = k) (hk : k ≠ 0 ∧ k ≠ 3) : rgN s = 0 ∧ rgR s = [] ∧ rgT s = ⟨#[]⟩ ∧ rgC s = k := by
  have : rgOk s = false := by unfold rgOk; rw [h, decide_eq_false hk.1, decide_eq_false hk.2]; rfl
  unfold rgN rgR rgT; rw [this]; exact ⟨rfl, rfl, rfl, h⟩
theorem rgF_cases (net : Int) (l : List OpV) (data s : ByteArray) : rgF net l data s = 0 ∨ rgF net l data s = 3 ∨ rgF net l data s = 2 := by
  unfold rgF; split
  · split
    · exact .inr (.inl rfl)
    · exact .inl rfl
  · exact .inr (.inr rfl)
theorem rgO_sum (s : ByteArray) (h : rgE s ≤ s.size) : opSum (rgO s) ≤ 1020 := by
  have h1 := gL_sum s (rgE s) 8 (rgE_bd s).1 h
  have h2 := rgE_bd s
  unfold rgO; omega
theorem rgO_len (s : ByteArray) (h : rgE s ≤ s.size) : (rgO s).length + opTot (rgO s) ≤ 1020 := by
  have := rgO_sum s h
  have := opSum_eq (rgO s)
  omega
/-- options that are not whole make no right text -/
theorem rg_bad {s : ByteArray} (h : rgE s ≤ s.size) (hb : (gL s (rgE s) 8).2 = false) : rgC s = 2 := by
  have h1 := (gL_sum s (rgE s) 8 (rgE_bd s).1 h).2.2 hb
  have h2 := rgE_bd s
  unfold rgC; rw [if_pos h]
  unfold rgF
  rw [if_neg]
  intro he
  have hl := congrArg ByteArray.size he
  rw [str_size] at hl
  unfold gvText at hl
  split at hl
  · rw [List.length_append, List.length_append, gvH_len, opsText_len, bl_length] at hl
    unfold rgD at hl
    rw [ByteArray.size_extract] at hl
    unfold rgO at hl
    omega
  · simp at hl; omega
end Go.Proofs.Ytnheppkjeoiipaa
