/-
  Ends of tunnels: which one is right, by the program and by the model.
-/
import Derived.Test.YtnheppkjeoiipaaGnv5
import Derived.Test.YtnheppkjeoiipaaTabM0
namespace Go.Proofs.Ytnheppkjeoiipaa
open Go.RowKit Go.PlainAid
/-- an end's fields -/
structure EdV where
  id : Int
  knd : Int
  loc : Int
  rem : Int
  net : Int
  df : Bool
  sum : Bool
  opts : List OpV
/-- the cells of an end whose options are read at T -/
def edL (e : EdV) (T : Option Addr) (c : Nat) : Array Value := #[.int .i64 e.id, .int .i64 e.knd, .int .i64 e.loc, .int .i64 e.rem, .int .i64 e.net, .bool e.df, .bool e.sum, .slice T e.opts.length c]
def netOfB (k n : Int) : Bool := if k = 4 then inB n 0 1048575 else netB n
def optsOfB (k : Int) (l : List OpV) : Bool := if k = 2 then opsB l else decide (l.length = 0)
def edOk (e : EdV) : Bool := actB e.id && inB e.knd 1 4 && addrB e.loc && addrB e.rem && netOfB e.knd e.net && optsOfB e.knd e.opts
theorem edOk_spec (e : EdV) : edOk e = (actB e.id && inB e.knd 1 4 && addrB e.loc && addrB e.rem && netB e.net && opsB e.opts && ((!decide (e.knd = 4) || decide (e.net < 1048576)) && (decide (e.knd = 2) || decide (e.opts.length = 0)))) := by
  have h1 : netOfB e.knd e.net = (netB e.net && (!decide (e.knd = 4) || decide (e.net < 1048576))) := by
    unfold netOfB netB inB
    by_cases h : e.knd = 4
    · rw [if_pos h, Bool.eq_iff_iff]; simp [h]; omega
    · rw [if_neg h]; simp [h]
  have h2 : optsOfB e.knd e.opts = (opsB e.opts && (decide (e.knd = 2) || decide (e.opts.length = 0))) := by
    unfold optsOfB
    by_cases h : e.knd = 2
    · rw [if_pos h]; simp [h]
    · rw [if_neg h]
      by_cases h0 : e.opts.length = 0
      · rw [List.length_eq_zero_iff.1 h0]; simp; rfl
      · simp [h, h0]
  unfold edOk
  rw [h1, h2]
  cases actB e.id <;> cases inB e.knd 1 4 <;> cases addrB e.loc <;> cases addrB e.rem <;> cases netB e.net <;> cases opsB e.opts <;> simp
theorem first6 (b0 b1 b2 b3 b4 b5 : Bool) : b0 = false ∨ b0 = true ∧ b1 = false ∨ b0 = true ∧ b1 = true ∧ b2 = false ∨ b0 = true ∧ b1 = true ∧ b2 = true ∧ b3 = false ∨ b0 = true ∧ b1 = true ∧ b2 = true ∧ b3 = true ∧ b4 = false ∨ b0 = true ∧ b1 = true ∧ b2 = true ∧ b3 = true ∧ b4 = true ∧ b5 = false ∨ b0 = true ∧ b1 = true ∧ b2 = true ∧ b3 = true ∧ b4 = true ∧ b5 = true := by
  cases b0 <;> cases b1 <;> cases b2 <;> cases b3 <;> cases b4 <;> cases b5 <;> decide
set_option maxRecDepth 100000 in
theorem i_isKind (n : Int) (w : World) : Calls Try.prog 51 #[.int .i64 n] w fun e w' => e = .returned (.bool (inB n 1 4)) ∧ w' = w := by
  go_enter Try.func51, Try.ntmps51
  by_cases h0 : 1 ≤ n
  · go_wp2
    go_ret
    exact ⟨ret_bool (by unfold inB; rw [Bool.eq_iff_iff]; simp; omega), rfl⟩
  · go_wp2
    go_ret
    exact ⟨ret_bool (by unfold inB; rw [Bool.eq_iff_iff]; simp; omega), rfl⟩
set_option maxRecDepth 100000 in
theorem i_isNetOf (k n : Int) (w : World) : Calls Try.prog 53 #[.int .i64 k, .int .i64 n] w fun e w' => e = .returned (.bool (netOfB k n)) ∧ w' = w := by
  have CN : Hid (∀ u : World, Calls Try.prog 74 #[.int .i64 n] u fun e w' => e = .returned (.bool (netB n)) ∧ w' = u) := fun u => i_isNet n u
  by_cases hk : k = 4
  · subst hk
    by_cases h0 : 0 ≤ n
    · go_enter Try.func53, Try.ntmps53
      go_wp2
      go_ret
      exact ⟨ret_bool (by unfold netOfB inB; rw [Bool.eq_iff_iff]; simp; omega), rfl⟩
    · go_enter Try.func53, Try.ntmps53
      go_wp2
      go_ret
      exact ⟨ret_bool (by unfold netOfB inB; rw [Bool.eq_iff_iff]; simp; omega), rfl⟩
  · have hkb : (k == 4) = false := by simp [hk]
    have HN : Hid (netOfB k n = netB n) := if_neg hk
    clear hk
    go_enter Try.func53, Try.ntmps53
    go_wp2_with (go_at_call 74; refine (CN.out _).mono ?_; rintro e wz ⟨rfl, hz⟩; rw [hz]; clear hz wz)
    go_ret
    exact ⟨ret_bool HN.out.symm, rfl⟩
set_option maxRecDepth 100000 in
theorem i_areOptsOf (k : Int) (T : Option Addr) (c : Nat) (l : List OpV) (w : World) (h : CellsAt w T (opF l)) (hn : l.length + opTot l ≤ 1048576) :
    Calls Try.prog 54 #[.int .i64 k, .slice T l.length c] w fun e w' => e = .returned (.bool (optsOfB k l)) ∧ Below w.heap.size w w' := by
  have CN : Hid (∀ u : World, Below w.heap.size w u → Calls Try.prog 75 #[.slice T l.length c] u fun e w' => e = .returned (.bool (opsB l)) ∧ Below u.heap.size u w') := fun u hu => i_areOpts T c l u (h.below hu) hn
  by_cases hk : k = 2
  · have HN : Hid (optsOfB 2 l = opsB l) := if_pos rfl
    subst hk
    go_enter Try.func54, Try.ntmps54
    go_wp2_with (go_at_call 75; refine (CN.out _ (Below.refl _ _)).mono ?_; rintro e wz ⟨rfl, hz⟩)
    go_ret
    exact ⟨ret_bool HN.out.symm, hz⟩
  · have hkb : (k == 2) = false := by simp [hk]
    have HN : Hid (optsOfB k l = decide (l.length = 0)) := if_neg hk
    clear hk CN
    by_cases h0 : l.length = 0
    · have HN2 : Hid (optsOfB k l = true) := by show _ = _; rw [HN.out]; simp [h0]
      have e0 : (l.length : Int) = 0 := by omega
      have e1 : ((l.length : Int) == 0) = true := by simp [e0]
      clear h0 e0 HN
      go_enter Try.func54, Try.ntmps54
      go_wp2
      go_ret
      exact ⟨ret_bool (by rw [HN2.out]), Below.refl _ _⟩
    · have HN2 : Hid (optsOfB k l = false) := by show _ = _; rw [HN.out]; simp [h0]
      have e1 : ((l.length : Int) == 0) = false := by simp; intro h; exact h0 (by rw [h]; rfl)
      clear h0 HN
      go_enter Try.func54, Try.ntmps54
      go_wp2
      go_ret
      exact ⟨ret_bool (by rw [HN2.out]), Below.refl _ _⟩
set_option maxRecDepth 100000 in
set_option maxHeartbeats 3200000 in
theorem i_EndOk (e : EdV) (T : Option Addr) (c : Nat) (w : World) (h : CellsAt w T (opF e.opts)) (hn : e.opts.length + opTot e.opts ≤ 1048576) :
    Calls Try.prog 24 #[.agg (edL e T c)] w fun x w' => x = .returned (.bool (edOk e)) ∧ Below w.heap.size w w' := by
  have hb0 : ∀ cs, Below w.heap.size w (w.alloc (.cells cs 39)) := fun cs => (Below.refl _ w).alloc (Nat.le_refl _) _
  have HP : Hid (edOk e = (actB e.id && inB e.knd 1 4 && addrB e.loc && addrB e.rem && netOfB e.knd e.net && optsOfB e.knd e.opts)) := rfl
  have CO : Hid (∀ u : World, Below w.heap.size w u → Calls Try.prog 54 #[.int .i64 e.knd, .slice T e.opts.length c] u fun x w' => x = .returned (.bool (optsOfB e.knd e.opts)) ∧ Below u.heap.size u w') := fun u hu => i_areOptsOf _ _ _ _ u (h.below hu) hn
  have CA : Hid (∀ u : World, Calls Try.prog 50 #[.int .i64 e.id] u fun x w' => x = .returned (.bool (actB e.id)) ∧ w' = u) := fun u => i_isAct _ u
  have CK : Hid (∀ u : World, Calls Try.prog 51 #[.int .i64 e.knd] u fun x w' => x = .returned (.bool (inB e.knd 1 4)) ∧ w' = u) := fun u => i_isKind _ u
  have CL : Hid (∀ u : World, Calls Try.prog 52 #[.int .i64 e.loc] u fun x w' => x = .returned (.bool (addrB e.loc)) ∧ w' = u) := fun u => i_isAddr _ u
  have CR : Hid (∀ u : World, Calls Try.prog 52 #[.int .i64 e.rem] u fun x w' => x = .returned (.bool (addrB e.rem)) ∧ w' = u) := fun u => i_isAddr _ u
  have CN : Hid (∀ u : World, Calls Try.prog 53 #[.int .i64 e.knd, .int .i64 e.net] u fun x w' => x = .returned (.bool (netOfB e.knd e.net)) ∧ w' = u) := fun u => i_isNetOf _ _ u
  clear h hn
  obtain ⟨id, knd, loc, rem, net, df, sum, opts⟩ := e
  simp only [edL] at *
  generalize edOk _ = r at *
  generalize actB id = b0 at *
  generalize inB knd 1 4 = b1 at *
  generalize hl : addrB loc = b2 at *
  generalize hr : addrB rem = b3 at *
  generalize netOfB knd net = b4 at *
  generalize optsOfB knd opts = b5 at *
  clear hl hr
  have hq := first6 b0 b1 b2 b3 b4 b5
  rcases hq with h0 | ⟨h0, h1⟩ | ⟨h0, h1, h2⟩ | ⟨h0, h1, h2, h3⟩ | ⟨h0, h1, h2, h3, h4⟩ | ⟨h0, h1, h2, h3, h4, h5⟩ | ⟨h0, h1, h2, h3, h4, h5⟩
  all_goals
    subst_vars
    go_enter Try.func24, Try.ntmps24
    go_wp2_with (first
      | (go_at_call 50; refine (CA.out _).mono ?_; rintro e wz ⟨rfl, hz⟩; rw [hz]; clear hz wz)
      | (go_at_call 51; refine (CK.out _).mono ?_; rintro e wz ⟨rfl, hz⟩; rw [hz]; clear hz wz)
      | (go_at_call 52; refine (CL.out _).mono ?_; rintro e wz ⟨rfl, hz⟩; rw [hz]; clear hz wz)
      | (go_at_call 52; refine (CR.out _).mono ?_; rintro e wz ⟨rfl, hz⟩; rw [hz]; clear hz wz)
      | (go_at_call 53; refine (CN.out _).mono ?_; rintro e wz ⟨rfl, hz⟩; rw [hz]; clear hz wz)
      | (go_at_call 54; refine (CO.out _ (hb0 _)).mono ?_; rintro e wq ⟨rfl, hq⟩))
    go_ret
    first | exact ⟨ret_bool (by simp), hb0 _⟩ | exact ⟨ret_bool (by simp), (hb0 _).trans (hq.mono (hb0 _).size)⟩
set_option maxRecDepth 100000 in
set_option maxHeartbeats 3200000 in
theorem s_EndOk (e : EdV) (T : Option Addr) (c : Nat) (w : World) (h : CellsAt w T (opF e.opts)) (hn : e.opts.length + opTot e.opts ≤ 1048576) :
    Calls Try.prog 25 #[.agg (edL e T c)] w fun x w' => x = .returned (.bool (edOk e)) ∧ Below w.heap.size w w' := by
  have hb0 : ∀ cs, Below w.heap.size w (w.alloc (.cells cs 39)) := fun cs => (Below.refl _ w).alloc (Nat.le_refl _) _
  have HP : Hid (edOk e = (actB e.id && inB e.knd 1 4 && addrB e.loc && addrB e.rem && netB e.net && opsB e.opts && ((!decide (e.knd = 4) || decide (e.net < 1048576)) && (decide (e.knd = 2) || decide (e.opts.length = 0))))) := edOk_spec e
  have CO : Hid (∀ u : World, Below w.heap.size w u → Calls Try.prog 40 #[.slice T e.opts.length c] u fun x w' => x = .returned (.bool (opsB e.opts)) ∧ Below u.heap.size u w') := fun u hu => s_Opts _ _ _ u (h.below hu) hn
  have CA : Hid (∀ u : World, Calls Try.prog 55 #[.int .i64 e.id] u fun x w' => x = .returned (.bool (actB e.id)) ∧ w' = u) := fun u => s_Act _ u
  have CK : Hid (∀ u : World, Calls Try.prog 56 #[.int .i64 e.knd, .int .i64 1, .int .i64 4] u fun x w' => x = .returned (.bool (inB e.knd 1 4)) ∧ w' = u) := fun u => s_In _ _ _ u
  have CL : Hid (∀ u : World, Calls Try.prog 57 #[.int .i64 e.loc] u fun x w' => x = .returned (.bool (addrB e.loc)) ∧ w' = u) := fun u => s_Addr _ u
  have CR : Hid (∀ u : World, Calls Try.prog 57 #[.int .i64 e.rem] u fun x w' => x = .returned (.bool (addrB e.rem)) ∧ w' = u) := fun u => s_Addr _ u
  have CN : Hid (∀ u : World, Calls Try.prog 39 #[.int .i64 e.net] u fun x w' => x = .returned (.bool (netB e.net)) ∧ w' = u) := fun u => s_Net _ u
  clear h hn
  obtain ⟨id, knd, loc, rem, net, df, sum, opts⟩ := e
  simp only [edL] at *
  generalize edOk _ = r at *
  generalize actB id = b0 at *
  generalize inB knd 1 4 = b1 at *
  generalize hl : addrB loc = b2 at *
  generalize hr : addrB rem = b3 at *
  generalize netB net = b4 at *
  generalize opsB opts = b5 at *
  clear hl hr
  have hq := first6 b0 b1 b2 b3 b4 b5
  rcases hq with h0 | ⟨h0, h1⟩ | ⟨h0, h1, h2⟩ | ⟨h0, h1, h2, h3⟩ | ⟨h0, h1, h2, h3, h4⟩ | ⟨h0, h1, h2, h3, h4, h5⟩ | ⟨h0, h1, h2, h3, h4, h5⟩
  · subst_vars
    go_enter Try.func25, Try.ntmps25
    go_wp2_with (first
      | (go_at_call 55; refine (CA.out _).mono ?_; rintro e wz ⟨rfl, hz⟩; rw [hz]; clear hz wz)
      | (go_at_call 56; refine (CK.out _).mono ?_; rintro e wz ⟨rfl, hz⟩; rw [hz]; clear hz wz)
      | (go_at_call 57; refine (CL.out _).mono ?_; rintro e wz ⟨rfl, hz⟩; rw [hz]; clear hz wz)
      | (go_at_call 57; refine (CR.out _).mono ?_; rintro e wz ⟨rfl, hz⟩; rw [hz]; clear hz wz)
      | (go_at_call 39; refine (CN.out _).mono ?_; rintro e wz ⟨rfl, hz⟩; rw [hz]; clear hz wz)
      | (go_at_call 40; refine (CO.out _ (hb0 _)).mono ?_; rintro e wq ⟨rfl, hq⟩))
    go_ret
    first | exact ⟨ret_bool (by simp), hb0 _⟩ | exact ⟨ret_bool (by simp), (hb0 _).trans (hq.mono (hb0 _).size)⟩
  · subst_vars
    go_enter Try.func25, Try.ntmps25
    go_wp2_with (first
      | (go_at_call 55; refine (CA.out _).mono ?_; rintro e wz ⟨rfl, hz⟩; rw [hz]; clear hz wz)
      | (go_at_call 56; refine (CK.out _).mono ?_; rintro e wz ⟨rfl, hz⟩; rw [hz]; clear hz wz)
      | (go_at_call 57; refine (CL.out _).mono ?_; rintro e wz ⟨rfl, hz⟩; rw [hz]; clear hz wz)
      | (go_at_call 57; refine (CR.out _).mono ?_; rintro e wz ⟨rfl, hz⟩; rw [hz]; clear hz wz)
      | (go_at_call 39; refine (CN.out _).mono ?_; rintro e wz ⟨rfl, hz⟩; rw [hz]; clear hz wz)
      | (go_at_call 40; refine (CO.out _ (hb0 _)).mono ?_; rintro e wq ⟨rfl, hq⟩))
    go_ret
    first | exact ⟨ret_bool (by simp), hb0 _⟩ | exact ⟨ret_bool (by simp), (hb0 _).trans (hq.mono (hb0 _).size)⟩
  · subst_vars
    go_enter Try.func25, Try.ntmps25
    go_wp2_with (first
      | (go_at_call 55; refine (CA.out _).mono ?_; rintro e wz ⟨rfl, hz⟩; rw [hz]; clear hz wz)
      | (go_at_call 56; refine (CK.out _).mono ?_; rintro e wz ⟨rfl, hz⟩; rw [hz]; clear hz wz)
      | (go_at_call 57; refine (CL.out _).mono ?_; rintro e wz ⟨rfl, hz⟩; rw [hz]; clear hz wz)
      | (go_at_call 57; refine (CR.out _).mono ?_; rintro e wz ⟨rfl, hz⟩; rw [hz]; clear hz wz)
      | (go_at_call 39; refine (CN.out _).mono ?_; rintro e wz ⟨rfl, hz⟩; rw [hz]; clear hz wz)
      | (go_at_call 40; refine (CO.out _ (hb0 _)).mono ?_; rintro e wq ⟨rfl, hq⟩))
    go_ret
    first | exact ⟨ret_bool (by simp), hb0 _⟩ | exact ⟨ret_bool (by simp), (hb0 _).trans (hq.mono (hb0 _).size)⟩
  · subst_vars
    go_enter Try.func25, Try.ntmps25
    go_wp2_with (first
      | (go_at_call 55; refine (CA.out _).mono ?_; rintro e wz ⟨rfl, hz⟩; rw [hz]; clear hz wz)
      | (go_at_call 56; refine (CK.out _).mono ?_; rintro e wz ⟨rfl, hz⟩; rw [hz]; clear hz wz)
      | (go_at_call 57; refine (CL.out _).mono ?_; rintro e wz ⟨rfl, hz⟩; rw [hz]; clear hz wz)
      | (go_at_call 57; refine (CR.out _).mono ?_; rintro e wz ⟨rfl, hz⟩; rw [hz]; clear hz wz)
      | (go_at_call 39; refine (CN.out _).mono ?_; rintro e wz ⟨rfl, hz⟩; rw [hz]; clear hz wz)
      | (go_at_call 40; refine (CO.out _ (hb0 _)).mono ?_; rintro e wq ⟨rfl, hq⟩))
    go_ret
    first | exact ⟨ret_bool (by simp), hb0 _⟩ | exact ⟨ret_bool (by simp), (hb0 _).trans (hq.mono (hb0 _).size)⟩
  · subst_vars
    go_enter Try.func25, Try.ntmps25
    go_wp2_with (first
      | (go_at_call 55; refine (CA.out _).mono ?_; rintro e wz ⟨rfl, hz⟩; rw [hz]; clear hz wz)
      | (go_at_call 56; refine (CK.out _).mono ?_; rintro e wz ⟨rfl, hz⟩; rw [hz]; clear hz wz)
      | (go_at_call 57; refine (CL.out _).mono ?_; rintro e wz ⟨rfl, hz⟩; rw [hz]; clear hz wz)
      | (go_at_call 57; refine (CR.out _).mono ?_; rintro e wz ⟨rfl, hz⟩; rw [hz]; clear hz wz)
      | (go_at_call 39; refine (CN.out _).mono ?_; rintro e wz ⟨rfl, hz⟩; rw [hz]; clear hz wz)
      | (go_at_call 40; refine (CO.out _ (hb0 _)).mono ?_; rintro e wq ⟨rfl, hq⟩))
    go_ret
    first | exact ⟨ret_bool (by simp), hb0 _⟩ | exact ⟨ret_bool (by simp), (hb0 _).trans (hq.mono (hb0 _).size)⟩
  · subst_vars
    go_enter Try.func25, Try.ntmps25
    go_wp2_with (first
      | (go_at_call 55; refine (CA.out _).mono ?_; rintro e wz ⟨rfl, hz⟩; rw [hz]; clear hz wz)
      | (go_at_call 56; refine (CK.out _).mono ?_; rintro e wz ⟨rfl, hz⟩; rw [hz]; clear hz wz)
      | (go_at_call 57; refine (CL.out _).mono ?_; rintro e wz ⟨rfl, hz⟩; rw [hz]; clear hz wz)
      | (go_at_call 57; refine (CR.out _).mono ?_; rintro e wz ⟨rfl, hz⟩; rw [hz]; clear hz wz)
      | (go_at_call 39; refine (CN.out _).mono ?_; rintro e wz ⟨rfl, hz⟩; rw [hz]; clear hz wz)
      | (go_at_call 40; refine (CO.out _ (hb0 _)).mono ?_; rintro e wq ⟨rfl, hq⟩))
    go_ret
    first | exact ⟨ret_bool (by simp), hb0 _⟩ | exact ⟨ret_bool (by simp), (hb0 _).trans (hq.mono (hb0 _).size)⟩
  · subst h0 h1 h2 h3 h4 h5
    have HR : Hid (r = ((!decide (knd = 4) || decide (net < 1048576)) && (decide (knd = 2) || decide (opts.length = 0)))) := by
      have HQ := HP.out
      simp only [Bool.true_and] at HQ
      exact HQ
    clear HP
    have hA : Bx (w.alloc (.cells #[.int .i64 id, .int .i64 knd, .int .i64 loc, .int .i64 rem, .int .i64 net, .bool df, .bool sum, .slice T opts.length c] 39)) w.heap.size [.int .i64 id, .int .i64 knd, .int .i64 loc, .int .i64 rem, .int .i64 net, .bool df, .bool sum, .slice T opts.length c] := Bx.new w _ _
    go_enter Try.func25, Try.ntmps25
    go_wp2_with (first
      | (go_at_call 55; refine (CA.out _).mono ?_; rintro e wz ⟨rfl, hz⟩; rw [hz]; clear hz wz)
      | (go_at_call 56; refine (CK.out _).mono ?_; rintro e wz ⟨rfl, hz⟩; rw [hz]; clear hz wz)
      | (go_at_call 57; refine (CL.out _).mono ?_; rintro e wz ⟨rfl, hz⟩; rw [hz]; clear hz wz)
      | (go_at_call 57; refine (CR.out _).mono ?_; rintro e wz ⟨rfl, hz⟩; rw [hz]; clear hz wz)
      | (go_at_call 39; refine (CN.out _).mono ?_; rintro e wz ⟨rfl, hz⟩; rw [hz]; clear hz wz))
    go_at_call 40
    refine (CO.out _ (hb0 _)).mono ?_
    rintro e wq ⟨rfl, hq⟩
    have hA1 := hA.below hq
    have hB := (hb0 _).trans (hq.mono (hb0 _).size)
    have a1 := hA1.2 1 _ rfl
    have a4 := hA1.2 4 _ rfl
    have a7 := hA1.2 7 _ rfl
    clear hA hq hb0 hA1
    have hl0 : Hid (((opts.length : Int) == 0) = decide (opts.length = 0)) := by show _ = _; rw [Bool.eq_iff_iff]; simp
    generalize hd : decide (opts.length = 0) = d0 at *
    clear hd
    by_cases hk : knd = 4
    · subst hk
      by_cases hn : net < 1048576
      · have HS : Hid (r = d0) := by show _ = _; rw [HR.out]; simp [hn]
        clear HR
        have e3 := hl0.out
        cases d0
        all_goals
          go_wp2
          go_ret
          exact ⟨ret_bool HS.out.symm, hB⟩
      · have HS : Hid (r = false) := by show _ = _; rw [HR.out]; simp [hn]
        clear HR
        go_wp2
        go_ret
        exact ⟨ret_bool HS.out.symm, hB⟩
    · have e1 : (knd == 4) = false := by simp [hk]
      by_cases h2 : knd = 2
      · have HS : Hid (r = true) := by show _ = _; rw [HR.out]; simp [h2]
        subst h2
        clear HR hk e1
        go_wp2
        go_ret
        exact ⟨ret_bool HS.out.symm, hB⟩
      · have e2 : (knd == 2) = false := by simp [h2]
        have HS : Hid (r = d0) := by show _ = _; rw [HR.out]; simp [hk, h2]
        clear HR
        have e3 := hl0.out
        have e4 : (knd != 4) = true := by simp [hk]
        have e5 : (knd != 2) = true := by simp [h2]
        cases d0
        all_goals
          go_wp2
          go_ret
          exact ⟨ret_bool HS.out.symm, hB⟩
end Go.Proofs.Ytnheppkjeoiipaa
