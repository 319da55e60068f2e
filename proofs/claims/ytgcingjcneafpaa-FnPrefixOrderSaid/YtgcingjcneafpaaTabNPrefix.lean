/-
  A rule that is put into no table.
-/
import Derived.Test.YtgcingjcneafpaaTabQPrefix
import Derived.Laws.AppendOwnNone
namespace Go.Proofs.Ytgcingjcneafpaa
open Go.RowKit Go.PlainAid
theorem wpList_append_none2 {w : World} {ops : Array Oper} {rest : List Oper} {o : Oper} {a : Act} {Q : Exit → Act → World → Prop} {S E S2 : TypeId} {k : Nat} (hi : Inf S E k) (hu : Try.prog.underlying S2 = some (.slice E)) (hgd : o.guard = none) (s x : Operand)
    (ho : o.op = .call { callee := .builtin .append, args := #[s, x], argTypes := #[S, S2] })
    (B : Nat) (v : Value) (n : Nat) (xs : List Int) (hs : a.eval s = v) (hown : ownR w B E k v n xs) (hx : a.eval x = .slice none 0 0)
    (h : wpList Try.prog ops Q rest (a.put o.dst v) w) : wpList Try.prog ops Q (o :: rest) a w := by
  obtain ⟨i0, hi0, hz0, hz1, hz2⟩ := info_parts hi.inf
  refine wpList_plain hgd fun K hK => ?_
  have hrun := run_append_owned_none (P := Try.prog) (w := w) B S o.type E i0 k hi.und hi0 v n (icells xs) hown
  obtain ⟨T, nn, cc, rfl⟩ : ∃ T nn cc, v = .slice T nn cc := by
    rcases hown.shape with ⟨rfl, _⟩ | ⟨g, cap, rfl, _⟩
    · exact ⟨_, _, _, rfl⟩
    · exact ⟨_, _, _, rfl⟩
  have hr2 := (append_types Try.prog w S S2 o.type E E hi.und hu i0 hi0 T nn cc (.slice none 0 0)).trans hrun
  unfold Oper.wp execOp
  simp only [ho, resolve, invoke, builtin, Sem.run_bind, Sem.run_pure, Result.andThen_ok, List.map_toArray, List.map_cons, List.map_nil, hs, hx, hr2]
  exact hK _ _ h
set_option maxRecDepth 100000 in
set_option maxHeartbeats 1600000 in
theorem i_pfReplN (b : Nat) (r : PfV) (w : World) (hU : IntsAt w (some ⟨b, 0, none⟩) (pfF [r])) :
    Calls Try.prog 60 #[.slice none 0 0, .int .i64 0, .int .i64 0, .slice (some ⟨b, 0, none⟩) 1 1] w fun e w' => ∃ v, e = .returned v ∧ ownR w' w.heap.size 70 3 v 1 (pfF [r]) ∧ Below w.heap.size w w' := by
  have hleno : (pfF [r]).length = 1 * 3 := pfF_len [r]
  have HO0 : Hid (ownR w w.heap.size 70 3 (.slice none 0 0) 0 []) := ownR.nil _ _ _ _
  have HU : Hid (IntsAt w (some ⟨b, 0, none⟩) (pfF [r])) := hU
  clear hU
  go_enter Try.func60, Try.ntmps60
  go_wp2_with (first | (at_builtin; refine wpList_append_recs Try.infPrefix rfl (.tmp 15) (.tmp 16) rfl w.heap.size _ 0 [] rfl HO0.out _ 1 1 (pfF [r]) rfl (by simp) hleno HU.out (by omega) (Nat.le_refl _) ?_; intro v2 w2 ho2 hb2; have HO2 : Hid (ownR w2 w.heap.size 70 3 v2 (0 + 1) ([] ++ pfF [r])) := ho2; clear ho2) | (at_builtin; refine wpList_append_none2 Try.infPrefix Try.underlying67 rfl (.tmp 18) (.tmp 21) rfl w.heap.size _ _ _ rfl HO2.out rfl ?_))
  go_ret
  exact ⟨_, rfl, HO2.out, hb2⟩
def BxN (W : World) (b : Nat) (vs : List Value) : Prop := b < W.heap.size ∧ ∀ i v, vs[i]? = some v → W.cell? ⟨b, i, none⟩ = some v
theorem BxN.below {W W' : World} {b : Nat} {vs : List Value} (h : BxN W b vs) (hb : Below W.heap.size W W') : BxN W' b vs :=
  ⟨Nat.lt_of_lt_of_le h.1 hb.size, fun i v hv => (hb.cell (p := ⟨b, i, none⟩) h.1).trans (h.2 i v hv)⟩
theorem Bx_pfN (W : World) (vs : Array Value) : BxN (W.alloc (.cells vs 70)) W.heap.size vs.toList :=
  ⟨by simp, fun i v hv => by rw [World.cell?_alloc_mark]; simpa using hv⟩
set_option maxRecDepth 100000 in
set_option maxHeartbeats 3200000 in
theorem i_pfPutN (r : PfV) (w : World) :
    Calls Try.prog 41 #[.slice none 0 0, .agg (pfL r)] w fun e w' => ∃ v, e = .returned (.tuple #[v, .int .i64 (pfPutC [] r)]) ∧ ownR w' w.heap.size 70 3 v (pfPutR [] r).length (pfF (pfPutR [] r)) ∧ Below w.heap.size w w' := by
  have hW0 : Below w.heap.size w (w.alloc (.cells (pfL r) 70)) := (Below.refl _ w).alloc (Nat.le_refl _) _
  have hA := Bx_pfN w (pfL r)
  have CT : Hid (∀ u : World, Calls Try.prog 58 #[.slice none 0 0] u fun e w' => e = .returned (.bool true) ∧ Below u.heap.size u w') := fun u => i_pfTab none 0 [] u (.inl rfl) (by simp)
  have CR : Hid (∀ u : World, Calls Try.prog 112 #[.agg (pfL r)] u fun e w' => e = .returned (.bool (pfOk r)) ∧ Below u.heap.size u w') := fun u => i_pfRight r u
  have CP : Hid (∀ u : World, Calls Try.prog 59 #[.slice none 0 0, .agg (pfL r)] u fun e w' => e = .returned (.tuple #[.int .i64 0, .bool false]) ∧ Below u.heap.size u w') := fun u => i_pfPlace none 0 [] r u (.inl rfl) (by simp)
  have CX : Hid (∀ (b : Nat) (u : World), IntsAt u (some ⟨b, 0, none⟩) (pfF [r]) → Calls Try.prog 60 #[.slice none 0 0, .int .i64 0, .int .i64 0, .slice (some ⟨b, 0, none⟩) 1 1] u fun e w' => ∃ v, e = .returned v ∧ ownR w' u.heap.size 70 3 v 1 (pfF [r]) ∧ Below u.heap.size u w') := fun b u h => i_pfReplN b r u h
  cases hok : pfOk r
  · have ZZ : Hid (pfPutC [] r = 1 ∧ pfPutR [] r = []) := by
      have e : pfPutC [] r = 1 := by unfold pfPutC; rw [hok]; simp
      exact ⟨e, by unfold pfPutR; rw [e]; rfl⟩
    rw [hok] at CR
    rw [ZZ.out.1, ZZ.out.2]
    obtain ⟨k0, k1, k2⟩ := r
    simp only [pfL] at *
    go_enter Try.func41, Try.ntmps41
    go_wp2_with fail
    generalize hW : w.alloc _ = w0 at *
    clear hW
    go_at_call 58
    refine (CT.out _).mono ?_
    rintro e w1 ⟨rfl, hX⟩
    replace hA := hA.below hX
    replace hW0 := hW0.trans (hX.mono hW0.size)
    clear hX
    have a0 := hA.2 0 _ rfl
    have a1 := hA.2 1 _ rfl
    have a2 := hA.2 2 _ rfl
    go_wp2_with (go_at_call 112; refine (CR.out _).mono ?_; rintro e w2 ⟨rfl, hb2⟩)
    go_ret2
    exact ⟨_, rfl, ownR.nil _ _ _ _, hW0.trans (hb2.mono hW0.size)⟩
  · have ZZ : Hid (pfPutC [] r = 0 ∧ pfPutR [] r = [r]) := by
      have e : pfPutC [] r = 0 := by unfold pfPutC; rw [hok]; rfl
      exact ⟨e, by unfold pfPutR; rw [e]; rfl⟩
    rw [hok] at CR
    rw [ZZ.out.1, ZZ.out.2]
    have HI : Hid (∀ u : World, IntsAt (u.alloc (.cells (pfL r) 70)) (some ⟨u.heap.size, 0, none⟩) (pfF [r])) := fun u => ints_new u 70 (pfI r)
    obtain ⟨k0, k1, k2⟩ := r
    simp only [pfL] at *
    go_enter Try.func41, Try.ntmps41
    go_wp2_with fail
    generalize hW : w.alloc _ = w0 at *
    clear hW
    go_at_call 58
    refine (CT.out _).mono ?_
    rintro e w1 ⟨rfl, hX⟩
    replace hA := hA.below hX
    replace hW0 := hW0.trans (hX.mono hW0.size)
    clear hX
    have a0 := hA.2 0 _ rfl
    have a1 := hA.2 1 _ rfl
    have a2 := hA.2 2 _ rfl
    go_wp2_with fail
    go_at_call 112
    refine (CR.out _).mono ?_
    rintro e w2 ⟨rfl, hX⟩
    replace hA := hA.below hX
    replace hW0 := hW0.trans (hX.mono hW0.size)
    clear hX a0 a1 a2
    have a0 := hA.2 0 _ rfl
    have a1 := hA.2 1 _ rfl
    have a2 := hA.2 2 _ rfl
    go_wp2_with fail
    go_at_call 59
    refine (CP.out _).mono ?_
    rintro e w3 ⟨rfl, hX⟩
    replace hA := hA.below hX
    replace hW0 := hW0.trans (hX.mono hW0.size)
    clear hX a0 a1 a2
    have a0 := hA.2 0 _ rfl
    have a1 := hA.2 1 _ rfl
    have a2 := hA.2 2 _ rfl
    have hB3 := hW0
    go_wp2_with fail
    go_at_call 60
    refine (CX.out _ _ (HI.out w3)).mono ?_
    rintro e w4 ⟨v, rfl, ho, hX⟩
    have hB4 := (hB3.alloc hB3.size _).trans (hX.mono (by have := hB3.size; simp; omega))
    go_wp2
    go_ret2
    exact ⟨_, rfl, ho.mono (by have := hB3.size; simp; omega), hB4⟩
theorem i_pfPutO (l : List PfV) (r : PfV) (v : Value) (B : Nat) (w : World) (hl : l.length ≤ 1048576) (ho : ownR w B 70 3 v l.length (pfF l)) :
    Calls Try.prog 41 #[v, .agg (pfL r)] w fun e w' => ∃ v', e = .returned (.tuple #[v', .int .i64 (pfPutC l r)]) ∧ ownR w' w.heap.size 70 3 v' (pfPutR l r).length (pfF (pfPutR l r)) ∧ Below w.heap.size w w' := by
  rcases ho.shape with ⟨hv, hn, _⟩ | ⟨g, cap, hv, _, _, hc, _⟩
  · subst hv
    have : l = [] := List.length_eq_zero_iff.1 hn
    subst this
    exact i_pfPutN r w
  · subst hv
    exact i_pfPut g 0 cap l r w ho.reads.2 hc hl
set_option maxRecDepth 100000 in
set_option maxHeartbeats 1600000 in
theorem i_PrefixPutO (vv : Value) (B : Nat) (l : List PfV) (a0 a1 a2 : Int) (w : World) (hl : l.length ≤ 1048576) (h : ownR w B 70 3 vv l.length (pfF l)) :
    Calls Try.prog 15 #[vv, .int .i64 a0, .int .i64 a1, .int .i64 a2] w fun e w' => ∃ v, e = .returned (.tuple #[v, .int .i64 (pfLC l a0 a1 a2)]) ∧ ownR w' w.heap.size 70 3 v (pfLR l a0 a1 a2).length (pfF (pfLR l a0 a1 a2)) ∧ Below w.heap.size w w' := by
  have CP : Hid (∀ u : World, Calls Try.prog 42 #[.int .i64 a0, .int .i64 a1, .int .i64 a2] u fun e w' => e = .returned (.agg (pfL (pfR a0 a1 a2))) ∧ Below u.heap.size u w') := fun u => i_prefixOf a0 a1 a2 u
  have C : Hid (∀ u : World, Below w.heap.size w u → Calls Try.prog 41 #[vv, .agg (pfL (pfR a0 a1 a2))] u fun e w' => ∃ v, e = .returned (.tuple #[v, .int .i64 (pfLC l a0 a1 a2)]) ∧ ownR w' u.heap.size 70 3 v (pfLR l a0 a1 a2).length (pfF (pfLR l a0 a1 a2)) ∧ Below u.heap.size u w') := by
    intro u hu; exact i_pfPutO l _ vv B u hl (h.far hu)
  generalize pfLC l a0 a1 a2 = pc at *
  generalize pfLR l a0 a1 a2 = pr at *
  go_enter Try.func15, Try.ntmps15
  go_wp2_with fail
  go_at_call 42
  refine (CP.out _).mono ?_
  rintro e w1 ⟨rfl, hb1⟩
  go_wp2_with fail
  go_at_call 41
  refine (C.out _ hb1).mono ?_
  rintro e w2 ⟨v, rfl, ho, hb⟩
  go_wp2
  go_ret2
  exact ⟨_, rfl, ho.mono hb1.size, hb1.trans (hb.mono hb1.size)⟩
end Go.Proofs.Ytgcingjcneafpaa
