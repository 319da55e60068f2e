/-
  A rule that is put into no table.
-/
import Derived.Test.YtnlignfmicincaaTabPExact
import Derived.Laws.AppendOwnNone
namespace Go.Proofs.Ytnlignfmicincaa
open Go.RowKit Go.PlainAid
theorem wpList_append_none2 {w : World} {ops : Array Oper} {rest : List Oper} {o : Oper} {a : Act} {Q : Exit → Act → World → Prop} {S E S2 : TypeId} {k : Nat} (hi : Inf S E k) (hu : Try.prog.underlying S2 = some (.slice E)) (hgd : o.guard = none) (s x : Operand)
    (ho : o.op = .call { callee := .builtin .append, args := #[s, x], argTypes := #[S, S2] })
    (B : Nat) (v : Value) (n : Nat) (xs : List Int) (hs : a.eval s = v) (hown : ownR w B E k v n xs) (hx : a.eval x = .slice none 0 0)
    (h : wpList Try.prog ops Q rest (a.put o.dst v) w) : wpList Try.prog ops Q (o :: rest) a w := by
  obtain ⟨i0, hi0, hz0, hz1, hz2⟩ := info_parts hi.inf
  refine wpList_plain hgd fun K hK => ?_
  have hrun := run_append_owned_none (P := Try.prog) (w := w) B S o.type E i0 k hi.und hi0 v n (icells xs) hown
  obtain ⟨T, nn, cc, rfl⟩ : ∃ T nn cc, v = .slice T nn cc := by
    rcases hown.shape with ⟨rfl, _⟩ | ⟨g, cap, rfl, _⟩
    · exact ⟨_, _, _, rfl⟩
    · exact ⟨_, _, _, rfl⟩
  have hr2 := (append_types Try.prog w S S2 o.type E E hi.und hu i0 hi0 T nn cc (.slice none 0 0)).trans hrun
  unfold Oper.wp execOp
  simp only [ho, resolve, invoke, builtin, Sem.run_bind, Sem.run_pure, Result.andThen_ok, List.map_toArray, List.map_cons, List.map_nil, hs, hx, hr2]
  exact hK _ _ h
set_option maxRecDepth 100000 in
set_option maxHeartbeats 1600000 in
theorem i_exReplN (b : Nat) (r : ExV) (w : World) (hU : IntsAt w (some ⟨b, 0, none⟩) (exF [r])) :
    Calls Try.prog 53 #[.slice none 0 0, .int .i64 0, .int .i64 0, .slice (some ⟨b, 0, none⟩) 1 1] w fun e w' => ∃ v, e = .returned v ∧ ownR w' w.heap.size 52 2 v 1 (exF [r]) ∧ Below w.heap.size w w' := by
  have hleno : (exF [r]).length = 1 * 2 := exF_len [r]
  have HO0 : Hid (ownR w w.heap.size 52 2 (.slice none 0 0) 0 []) := ownR.nil _ _ _ _
  have HU : Hid (IntsAt w (some ⟨b, 0, none⟩) (exF [r])) := hU
  clear hU
  go_enter Try.func53, Try.ntmps53
  go_wp2_with (first | (at_builtin; refine wpList_append_recs Try.infExact rfl (.tmp 15) (.tmp 16) rfl w.heap.size _ 0 [] rfl HO0.out _ 1 1 (exF [r]) rfl (by simp) hleno HU.out (by omega) (Nat.le_refl _) ?_; intro v2 w2 ho2 hb2; have HO2 : Hid (ownR w2 w.heap.size 52 2 v2 (0 + 1) ([] ++ exF [r])) := ho2; clear ho2) | (at_builtin; refine wpList_append_none2 Try.infExact Try.underlying53 rfl (.tmp 18) (.tmp 21) rfl w.heap.size _ _ _ rfl HO2.out rfl ?_))
  go_ret
  exact ⟨_, rfl, HO2.out, hb2⟩
def BxN (W : World) (b : Nat) (vs : List Value) : Prop := b < W.heap.size ∧ ∀ i v, vs[i]? = some v → W.cell? ⟨b, i, none⟩ = some v
theorem BxN.below {W W' : World} {b : Nat} {vs : List Value} (h : BxN W b vs) (hb : Below W.heap.size W W') : BxN W' b vs :=
  ⟨Nat.lt_of_lt_of_le h.1 hb.size, fun i v hv => (hb.cell (p := ⟨b, i, none⟩) h.1).trans (h.2 i v hv)⟩
theorem Bx_exN (W : World) (vs : Array Value) : BxN (W.alloc (.cells vs 52)) W.heap.size vs.toList :=
  ⟨by simp, fun i v hv => by rw [World.cell?_alloc_mark]; simpa using hv⟩
set_option maxRecDepth 100000 in
set_option maxHeartbeats 3200000 in
theorem i_exPutN (r : ExV) (w : World) :
    Calls Try.prog 30 #[.slice none 0 0, .agg (exL r)] w fun e w' => ∃ v, e = .returned (.tuple #[v, .int .i64 (exPutC [] r)]) ∧ ownR w' w.heap.size 52 2 v (exPutR [] r).length (exF (exPutR [] r)) ∧ Below w.heap.size w w' := by
  have hW0 : Below w.heap.size w (w.alloc (.cells (exL r) 52)) := (Below.refl _ w).alloc (Nat.le_refl _) _
  have hA := Bx_exN w (exL r)
  have CT : Hid (∀ u : World, Calls Try.prog 51 #[.slice none 0 0] u fun e w' => e = .returned (.bool true) ∧ Below u.heap.size u w') := fun u => i_exTab none 0 [] u (.inl rfl) (by simp)
  have CR : Hid (∀ u : World, Calls Try.prog 81 #[.agg (exL r)] u fun e w' => e = .returned (.bool (exOk r)) ∧ Below u.heap.size u w') := fun u => i_exRight r u
  have CP : Hid (∀ u : World, Calls Try.prog 52 #[.slice none 0 0, .agg (exL r)] u fun e w' => e = .returned (.tuple #[.int .i64 0, .bool false]) ∧ Below u.heap.size u w') := fun u => i_exPlace none 0 [] r u (.inl rfl) (by simp)
  have CX : Hid (∀ (b : Nat) (u : World), IntsAt u (some ⟨b, 0, none⟩) (exF [r]) → Calls Try.prog 53 #[.slice none 0 0, .int .i64 0, .int .i64 0, .slice (some ⟨b, 0, none⟩) 1 1] u fun e w' => ∃ v, e = .returned v ∧ ownR w' u.heap.size 52 2 v 1 (exF [r]) ∧ Below u.heap.size u w') := fun b u h => i_exReplN b r u h
  cases hok : exOk r
  · have ZZ : Hid (exPutC [] r = 1 ∧ exPutR [] r = []) := by
      have e : exPutC [] r = 1 := by unfold exPutC; rw [hok]; simp
      exact ⟨e, by unfold exPutR; rw [e]; rfl⟩
    rw [hok] at CR
    rw [ZZ.out.1, ZZ.out.2]
    obtain ⟨k, x⟩ := r
    simp only [exL] at *
    go_enter Try.func30, Try.ntmps30
    go_wp2_with fail
    generalize hW : w.alloc _ = w0 at *
    clear hW
    go_at_call 51
    refine (CT.out _).mono ?_
    rintro e w1 ⟨rfl, hX⟩
    replace hA := hA.below hX
    replace hW0 := hW0.trans (hX.mono hW0.size)
    clear hX
    have a0 := hA.2 0 _ rfl
    have a1 := hA.2 1 _ rfl
    go_wp2_with (go_at_call 81; refine (CR.out _).mono ?_; rintro e w2 ⟨rfl, hb2⟩)
    go_ret2
    exact ⟨_, rfl, ownR.nil _ _ _ _, hW0.trans (hb2.mono hW0.size)⟩
  · have ZZ : Hid (exPutC [] r = 0 ∧ exPutR [] r = [r]) := by
      have e : exPutC [] r = 0 := by unfold exPutC; rw [hok]; rfl
      exact ⟨e, by unfold exPutR; rw [e]; rfl⟩
    rw [hok] at CR
    rw [ZZ.out.1, ZZ.out.2]
    have HI : Hid (∀ u : World, IntsAt (u.alloc (.cells (exL r) 52)) (some ⟨u.heap.size, 0, none⟩) (exF [r])) := fun u => ints_new u 52 (exI r)
    obtain ⟨k, x⟩ := r
    simp only [exL] at *
    go_enter Try.func30, Try.ntmps30
    go_wp2_with fail
    generalize hW : w.alloc _ = w0 at *
    clear hW
    go_at_call 51
    refine (CT.out _).mono ?_
    rintro e w1 ⟨rfl, hX⟩
    replace hA := hA.below hX
    replace hW0 := hW0.trans (hX.mono hW0.size)
    clear hX
    have a0 := hA.2 0 _ rfl
    have a1 := hA.2 1 _ rfl
    go_wp2_with fail
    go_at_call 81
    refine (CR.out _).mono ?_
    rintro e w2 ⟨rfl, hX⟩
    replace hA := hA.below hX
    replace hW0 := hW0.trans (hX.mono hW0.size)
    clear hX a0 a1
    have a0 := hA.2 0 _ rfl
    have a1 := hA.2 1 _ rfl
    go_wp2_with fail
    go_at_call 52
    refine (CP.out _).mono ?_
    rintro e w3 ⟨rfl, hX⟩
    replace hA := hA.below hX
    replace hW0 := hW0.trans (hX.mono hW0.size)
    clear hX a0 a1
    have a0 := hA.2 0 _ rfl
    have a1 := hA.2 1 _ rfl
    have hB3 := hW0
    go_wp2_with fail
    go_at_call 53
    refine (CX.out _ _ (HI.out w3)).mono ?_
    rintro e w4 ⟨v, rfl, ho, hX⟩
    have hB4 := (hB3.alloc hB3.size _).trans (hX.mono (by have := hB3.size; simp; omega))
    go_wp2
    go_ret2
    exact ⟨_, rfl, ho.mono (by have := hB3.size; simp; omega), hB4⟩
set_option maxRecDepth 100000 in
theorem i_ExactPutN (r : ExV) (w : World) :
    Calls Try.prog 11 #[.slice none 0 0, .int .i64 r.key, .int .i64 r.act] w fun e w' => ∃ v, e = .returned (.tuple #[v, .int .i64 (exPutC [] r)]) ∧ ownR w' w.heap.size 52 2 v (exPutR [] r).length (exF (exPutR [] r)) ∧ Below w.heap.size w w' := by
  have C : Hid (∀ u : World, Calls Try.prog 30 #[.slice none 0 0, .agg (exL r)] u fun e w' => ∃ v, e = .returned (.tuple #[v, .int .i64 (exPutC [] r)]) ∧ ownR w' u.heap.size 52 2 v (exPutR [] r).length (exF (exPutR [] r)) ∧ Below u.heap.size u w') := fun u => i_exPutN r u
  generalize exPutC [] r = pc at *
  generalize exPutR [] r = pr at *
  obtain ⟨k, x⟩ := r
  simp only [exL] at *
  go_enter Try.func11, Try.ntmps11
  go_wp2_with fail
  go_at_call 30
  refine (C.out _).mono ?_
  rintro e w1 ⟨v, rfl, ho, hb⟩
  go_wp2
  go_ret2
  exact ⟨_, rfl, ho, hb⟩
theorem i_ExactPutO (l : List ExV) (r : ExV) (v : Value) (B : Nat) (w : World) (hl : l.length ≤ 1048576) (ho : ownR w B 52 2 v l.length (exF l)) :
    Calls Try.prog 11 #[v, .int .i64 r.key, .int .i64 r.act] w fun e w' => ∃ v', e = .returned (.tuple #[v', .int .i64 (exPutC l r)]) ∧ ownR w' w.heap.size 52 2 v' (exPutR l r).length (exF (exPutR l r)) ∧ Below w.heap.size w w' := by
  rcases ho.shape with ⟨hv, hn, _⟩ | ⟨g, cap, hv, _, _, hc, _⟩
  · subst hv
    have : l = [] := List.length_eq_zero_iff.1 hn
    subst this
    exact i_ExactPutN r w
  · subst hv
    exact i_ExactPut g 0 cap l r w ho.reads.2 hc hl
end Go.Proofs.Ytnlignfmicincaa
