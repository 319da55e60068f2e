/-
  A region that draws its order, by what holds once a set of its operations has come up: one step for each operation in the place of one for each order.
-/
import Derived.Calls
import Derived.RegionTactic
import Derived.BigQuiet
namespace Go.Proofs.YteflhnmoceppgaaDoor
open Go
def updB (L : Nat → Bool) (i : Nat) : Nat → Bool := fun j => if j = i then true else L j
def updV (v : Nat → Value) (i : Nat) (x : Value) : Nat → Value := fun j => cond (Nat.beq j i) x (v j)
theorem updV_same (v : Nat → Value) (i : Nat) (x : Value) : updV v i x i = x := by have e : Nat.beq i i = true := Nat.beq_refl i; simp only [updV, e, cond_true]
theorem updV_ne (v : Nat → Value) {i j : Nat} (x : Value) (h : j ≠ i) : updV v i x j = v j := by have e : Nat.beq j i = false := (by cases hq : Nat.beq j i with | false => rfl | true => exact absurd (Nat.eq_of_beq_eq_true hq) h); simp only [updV, e, cond_false]
theorem updV_eq {v : Nat → Value} {i : Nat} {x : Value} (h : v i = x) : updV v i x = v := by
  funext j
  by_cases hj : j = i
  · subst hj; rw [updV_same, h]
  · rw [updV_ne _ _ hj]
/-- every edge that binds goes back -/
def backB : Nat → List Oper → Bool
  | _, [] => true
  | n, o :: l => o.after.all (fun e => !Region.binds .any e || Nat.blt e.on n) && backB (n + 1) l
theorem backB_at : ∀ (l : List Oper) (n i : Nat) (o : Oper), backB n l = true → l[i]? = some o → ∀ e ∈ o.after, Region.binds .any e = true → e.on < n + i
  | [], _, i, o, _, h => by simp at h
  | x :: l, n, i, o, hb, h => by
    simp only [backB, Bool.and_eq_true] at hb
    obtain ⟨h1, h2⟩ := hb
    cases i with
    | zero =>
      simp at h; subst h
      intro e he hbe
      have := Array.all_eq_true_iff_forall_mem.1 h1 e he
      rw [hbe] at this
      have h3 : Nat.blt e.on n = true := by simpa using this
      exact Nat.lt_of_lt_of_le (by simpa using h3) (Nat.le_add_right _ _)
    | succ i =>
      intro e he hbe
      have := backB_at l (n + 1) i o h2 (by simpa using h) e he hbe
      omega
theorem count_step (l : List Bool) (i n : Nat) (hi : l[i]? = some false) (h : l.count false ≤ n + 1) : (l.set i true).count false ≤ n := by
  obtain ⟨hlt, he⟩ := List.getElem?_eq_some_iff.1 hi
  have h1 := List.count_pos_iff.2 (List.mem_of_getElem? hi)
  rw [List.count_set hlt, he]
  simp
  omega
/-- one step for each operation -/
def Steps (P : Program) (Q : Exit → Act → World → Prop) (mk : (Nat → Value) → Act) (J : (Nat → Bool) → (Nat → Value) → World → Prop) : Nat → List Oper → Prop
  | _, [] => True
  | n, o :: l => (∀ L v w, J L v w → L n = false → (∀ e ∈ o.after, Region.binds .any e = true → L e.on = true) →
      (Region.wanted o (fun _ => none) = true ∧ ∀ K : Act → World → Prop, (∀ v' w', J (updB L n) v' w' → K (mk v') w') → Oper.wp P o (mk v) w K Q)) ∧ Steps P Q mk J (n + 1) l
theorem Steps.nil {P : Program} {Q : Exit → Act → World → Prop} {mk : (Nat → Value) → Act} {J : (Nat → Bool) → (Nat → Value) → World → Prop} {n : Nat} : Steps P Q mk J n [] := trivial
theorem Steps.cons {P : Program} {Q : Exit → Act → World → Prop} {mk : (Nat → Value) → Act} {J : (Nat → Bool) → (Nat → Value) → World → Prop} {n : Nat} {o : Oper} {l : List Oper} (hw : Region.wanted o (fun _ => none) = true)
    (h : ∀ L v w, J L v w → L n = false → (∀ e ∈ o.after, Region.binds .any e = true → L e.on = true) → ∀ K : Act → World → Prop, (∀ v' w', J (updB L n) v' w' → K (mk v') w') → Oper.wp P o (mk v) w K Q)
    (hs : Steps P Q mk J (n + 1) l) : Steps P Q mk J n (o :: l) := ⟨fun L v w hJ hL hd => ⟨hw, h L v w hJ hL hd⟩, hs⟩
theorem Steps.at {P : Program} {Q : Exit → Act → World → Prop} {mk : (Nat → Value) → Act} {J : (Nat → Bool) → (Nat → Value) → World → Prop} : ∀ (l : List Oper) (n i : Nat) (o : Oper), Steps P Q mk J n l → l[i]? = some o →
    ∀ L v w, J L v w → L (n + i) = false → (∀ e ∈ o.after, Region.binds .any e = true → L e.on = true) →
      (Region.wanted o (fun _ => none) = true ∧ ∀ K : Act → World → Prop, (∀ v' w', J (updB L (n + i)) v' w' → K (mk v') w') → Oper.wp P o (mk v) w K Q)
  | [], _, i, o, _, h => by simp at h
  | x :: l, n, i, o, hs, h => by
    obtain ⟨h1, h2⟩ := hs
    cases i with
    | zero => simp at h; subst h; exact h1
    | succ i =>
      have := Steps.at l (n + 1) i o h2 (by simpa using h)
      rw [show n + (i + 1) = n + 1 + i by omega]
      exact this
theorem wanted_free {o : Oper} {y : Nat → Option Bool} (h : Region.wanted o (fun _ => none) = true) : Region.wanted o y = true := by
  unfold Region.wanted at *
  cases hg : o.guard with
  | none => rfl
  | some g => rw [hg] at h; simp at h
theorem wpAny_of_inv {P : Program} {l : List Oper} {Q : Exit → Act → World → Prop} (mk : (Nat → Value) → Act) (J : (Nat → Bool) → (Nat → Value) → World → Prop)
    (hb : backB 0 l = true) (hs : Steps P Q mk J 0 l)
    (hend : ∀ L v w, J L v w → (∀ j, j < l.length → L j = true) → Q .normal (mk v) w) :
    ∀ (n : Nat) (listed : Array Bool) (v : Nat → Value) (w : World), listed.size = l.length → listed.toList.count false ≤ n → J (fun j => listed.getD j true) v w → wpAny P .any l.toArray Q n listed (mk v) w := by
  have hfin : ∀ (listed : Array Bool) (v : Nat → Value) (w : World), listed.size = l.length → J (fun j => listed.getD j true) v w → Region.ready .any l.toArray listed = [] → Q .normal (mk v) w := by
    intro listed v w hsz hJ hr
    refine hend _ v w hJ ?_
    have key : ∀ m j, j < m → j < l.length → listed.getD j true = true := by
      intro m
      induction m with
      | zero => intro j hj; omega
      | succ m ih =>
        intro j hj hjl
        by_cases hf : listed.getD j true = true
        · exact hf
        · exfalso
          have hf' : listed.getD j true = false := by simpa using hf
          have : j ∈ Region.ready .any l.toArray listed := by
            rw [mem_ready]
            refine ⟨hf', l[j], by simp [hjl], ?_⟩
            intro e he hbe
            have hlt := backB_at l 0 j l[j] hb (by simp [hjl]) e he hbe
            have h1 := ih e.on (by omega) (by omega)
            have h2 : e.on < listed.size := by omega
            simpa [h2] using h1
          rw [hr] at this
          cases this
    exact fun j hj => key (j + 1) j (by omega) hj
  intro n
  induction n with
  | zero =>
    intro listed v w hsz hc hJ
    have hall : ∀ j, j < l.length → listed.getD j true = true := by
      intro j hj
      have hnot : false ∉ listed.toList := by
        intro hm
        have := List.count_pos_iff.2 hm
        omega
      have h2 : j < listed.size := by omega
      have hmem : listed[j] ∈ listed.toList := by simp
      cases hv : listed[j] with
      | true => simp [h2, hv]
      | false => rw [hv] at hmem; exact absurd hmem hnot
    have hr : Region.ready .any l.toArray listed = [] := by
      apply List.eq_nil_iff_forall_not_mem.2
      intro j hj
      obtain ⟨h0, o, ho, _⟩ := mem_ready.1 hj
      have hjl : j < l.length := by
        have := (Array.getElem?_eq_some_iff.1 ho).1
        simpa using this
      rw [hall j hjl] at h0
      cases h0
    exact ⟨hr, hfin listed v w hsz hJ hr⟩
  | succ n ih =>
    intro listed v w hsz hc hJ
    refine ⟨hfin listed v w hsz hJ, ?_⟩
    intro i hi
    obtain ⟨h0, o, ho, hdep⟩ := mem_ready.1 hi
    have hol : l[i]? = some o := by simpa using ho
    have hil : i < l.length := (List.getElem?_eq_some_iff.1 hol).1
    obtain ⟨hw, hstep⟩ := Steps.at l 0 i o hs hol _ v w hJ (by rw [Nat.zero_add]; exact h0) (fun e he hbe => by
      have h1 := hdep e he hbe
      cases hq : listed[e.on]? with
      | none => simp [hq] at h1
      | some b => simp [hq] at h1; simp [hq, h1])
    unfold wpOp
    simp only [ho]
    rw [if_pos (wanted_free hw)]
    refine .inl (hstep _ ?_)
    intro v' w' hJ'
    refine ih _ v' w' (by simpa using hsz) ?_ ?_
    · rw [Array.toList_setIfInBounds]
      refine count_step _ _ _ ?_ hc
      have : i < listed.size := by omega
      simp [this] at h0 ⊢
      exact h0
    · have e : (fun j => (listed.setIfInBounds i true).getD j true) = updB (fun j => listed.getD j true) (0 + i) := by
        funext j
        unfold updB
        rw [Nat.zero_add]
        by_cases hj : j = i
        · subst hj
          have : j < listed.size := by omega
          simp [this]
        · rw [if_neg hj, getD_set_ne true (Ne.symm hj)]
      rw [e]
      exact hJ'
/-- A REGION BY ITS INVARIANT: 'mk v': the state with v i in the place of operation i; 'J L v w': what holds when just the operations with L have come up. -/
theorem wp_region_inv {P : Program} {id : Nat} {l : List Oper} {Q : Exit → Act → World → Prop} {a : Act} {w : World} (mk : (Nat → Value) → Act) (J : (Nat → Bool) → (Nat → Value) → World → Prop) (v : Nat → Value)
    (hm : P.follows .mixedOrders = true) (hb : backB 0 l = true) (ha : a = mk v)
    (h0 : ∀ L, (∀ j, j < l.length → L j = false) → J L v w.drew)
    (hs : Steps P Q mk J 0 l)
    (hend : ∀ L v w, J L v w → (∀ j, j < l.length → L j = true) → Q .normal (mk v) w) : (Code.region id l.toArray true).wp P Q a w := by
  subst ha
  refine wp_region_any hm ?_
  have := wpAny_of_inv mk J hb hs hend l.length (Array.replicate l.length false) v w.drew (by simp) (by simp) (h0 _ (fun j hj => by simp [hj]))
  simpa using this
/-- A region whose last operation, number N, waits for all others: 'I' holds of every world, 'F i' of what operation i has left, 'fin' of what number a has left once all is done. -/
structure QJ (N a : Nat) (I : World → Prop) (F : Nat → Value → World → Prop) (fin : Value → World → Prop) (L : Nat → Bool) (v : Nat → Value) (w : World) : Prop where
  inv : I w
  F : L N = false → ∀ i, L i = true → F i (v i) w
  all : L N = true → ∀ j, j < N → L j = true
  E : L N = true → fin (v a) w
section
variable {N a : Nat} {I : World → Prop} {F : Nat → Value → World → Prop} {fin : Value → World → Prop} {L : Nat → Bool} {v : Nat → Value} {w w' : World}
theorem QJ.hN (h : QJ N a I F fin L v w) {n : Nat} (hn : n < N) (hL : L n = false) : L N = false := by
  cases hq : L N with
  | false => rfl
  | true => have := h.all hq n hn; rw [hL] at this; cases this
theorem QJ.start (hI : I w) (hF : ∀ i x, N < i → F i x w) (hL : ∀ j, j < N + 1 → L j = false) : QJ N a I F fin L v w :=
  ⟨hI, fun _ i hi => by
    by_cases h : i < N + 1
    · rw [hL i h] at hi; cases hi
    · exact hF i _ (by omega), fun h => (by rw [hL N (by omega)] at h; cases h), fun h => (by rw [hL N (by omega)] at h; cases h)⟩
theorem QJ.next (h : QJ N a I F fin L v w) (n : Nat) (x : Value) (hn : n < N) (hL : L n = false) (hI : I w') (hS : ∀ i y, F i y w → F i y w') (hx : F n x w') : QJ N a I F fin (updB L n) (updV v n x) w' := by
  have h14 := h.hN hn hL
  have e14 : updB L n N = false := by unfold updB; rw [if_neg (by omega)]; exact h14
  refine ⟨hI, fun _ i hi => ?_, fun h' => (by rw [e14] at h'; cases h'), fun h' => (by rw [e14] at h'; cases h')⟩
  by_cases hin : i = n
  · subst hin; rw [updV_same]; exact hx
  · rw [updV_ne _ _ hin]
    have : L i = true := by unfold updB at hi; rw [if_neg hin] at hi; exact hi
    exact hS i _ (h.F h14 i this)
theorem QJ.last (hI : I w') (hall : ∀ j, j < N → L j = true) (hE : fin (v a) w') : QJ N a I F fin (updB L N) v w' := by
  have e : updB L N N = true := by unfold updB; rw [if_pos rfl]
  exact ⟨hI, fun h => (by rw [e] at h; cases h), fun _ j hj => (by unfold updB; rw [if_neg (by omega)]; exact hall j hj), fun _ => hE⟩
end
end Go.Proofs.YteflhnmoceppgaaDoor
