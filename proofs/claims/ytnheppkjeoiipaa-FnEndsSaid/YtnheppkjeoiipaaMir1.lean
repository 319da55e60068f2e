/-
  Ends mirrored, by the program and by the model.
-/
import Derived.Test.YtnheppkjeoiipaaEds1
import Derived.Test.YtnheppkjeoiipaaEds2
import Derived.Test.YtnheppkjeoiipaaClone
import Derived.Test.YtnheppkjeoiipaaRdr
import Derived.Deep.RegionHeld3
import Derived.Laws.Cover3
namespace Go.Proofs.Ytnheppkjeoiipaa
open Go.RowKit Go.PlainAid
theorem oneOps (l : List OpV) : ∀ u ∈ opF l, u.oneCell' = true := by
  intro u hu
  obtain ⟨a, _, ha⟩ := List.mem_flatMap.1 hu
  obtain ⟨c, t, d⟩ := a
  simp only [opL, List.mem_cons, List.not_mem_nil, or_false] at ha
  rcases ha with rfl | rfl | rfl <;> rfl
/-- an end exchanged; none where it is none -/
def edM (e : EdV) : EdV := if edOk e then ⟨e.id, e.knd, e.rem, e.loc, e.net, e.df, e.sum, e.opts⟩ else ⟨0, 0, 0, 0, 0, false, false, []⟩
theorem nilOpt (a : Option Addr) (l c : Nat) (w : World) : (binOp .eql 24 (.slice a l c) (.slice none 0 0)).run Try.prog w = .ok (.bool a.isNone) w := by
  simp only [binOp]
  simp [run_equal_slice_nil w _ _ a l c Try.underlying24]
set_option maxRecDepth 100000 in
theorem i_CloneOpt (T : Option Addr) (c : Nat) (l : List OpV) (w : World) (h : CellsAt w T (opF l)) (hT : T = none → l.length = 0 ∧ c = 0) (hl : l.length ≤ 1048576) :
    Calls Try.prog 70 #[.slice T l.length c] w fun e w' => ∃ v, e = .returned v ∧ ownV w' w.heap.size 33 3 v l.length (opF l) ∧ Below w.heap.size w w' := by
  cases T with
  | none =>
    obtain ⟨h0, rfl⟩ := hT rfl
    obtain rfl := List.length_eq_zero_iff.1 h0
    have hnil := nilOpt none 0 0
    go_enter Try.func70, Try.ntmps70
    go_wp2
    go_ret
    exact ⟨_, rfl, ownV.nil _ _ _ _, Below.refl _ _⟩
  | some ad =>
    have hO0 : ownV (w.alloc (.cells #[] 33)) w.heap.size 33 3 (.slice (some ⟨w.heap.size, 0, none⟩) 0 0) 0 [] := World.ownsRow_made w #[] 0 (Nat.le_refl _) (by decide) rfl
    have hc := h.alloc (.cells #[] 33)
    have hone := oneOps l
    have hfl := opF_len l
    have hB0 : Below w.heap.size w (w.alloc (.cells #[] 33)) := (Below.refl _ w).alloc (Nat.le_refl _) _
    clear h
    have hnil := nilOpt (some ad) l.length c
    generalize opF l = ys at *
    go_enter Try.func70, Try.ntmps70
    go_wp2_with (at_builtin; refine wpList_append_vals Try.infOpt rfl _ _ rfl w.heap.size _ 0 [] rfl hO0 (some ad) l.length c ys rfl (by simp) hfl hone hc (by omega) (by simp) ?_; intro v' w' hv hb)
    go_ret
    exact ⟨_, rfl, by simpa using hv, hB0.trans hb⟩
theorem ownV.lowset {w : World} {B : Nat} {E : TypeId} {k : Nat} {v : Value} {n : Nat} {xs : List Value} (h : ownV w B E k v n xs) {b j : Nat} (hb : b < B) (u : Value) : ownV (w.setCell ⟨b, j, none⟩ u) B E k v n xs := by
  rcases h.shape with ⟨rfl, rfl, rfl⟩ | ⟨g, cap, rfl, hB, _⟩
  · exact ownV.nil _ _ _ _
  · exact h.aside (by omega) u
theorem Bx.oth {W : World} {b : Nat} {vs : List Value} (h : Bx W b vs) {c j : Nat} (hc : c ≠ b) (u : Value) : Bx (W.setCell ⟨c, j, none⟩ u) b vs :=
  ⟨by simpa using h.1, fun i v hi => (World.cell?_setCell_other _ _ _ _ (fun k => hc (congrArg Addr.block k))).trans (h.2 i v hi)⟩
theorem Fx.below' {W W' : World} {b : Nat} (h : Fx W b) (hb : Below W.heap.size W W') : Fx W' b :=
  ⟨Nat.lt_of_lt_of_le h.1 hb.size, fun j => (hb.frozen (p := ⟨b, j, none⟩) h.1).trans (h.2 j)⟩
abbrev edZ : Array Value := #[.int .i64 0, .int .i64 0, .int .i64 0, .int .i64 0, .int .i64 0, .bool false, .bool false, .slice none 0 0]
theorem two_new (w : World) (cs : Array Value) (t : TypeId) : Bx ((w.alloc (.cells cs t)).alloc (.cells edZ t)) w.heap.size cs.toList ∧ Fx ((w.alloc (.cells cs t)).alloc (.cells edZ t)) w.heap.size ∧ Bx ((w.alloc (.cells cs t)).alloc (.cells edZ t)) (w.heap.size + 1) edZ.toList ∧ Fx ((w.alloc (.cells cs t)).alloc (.cells edZ t)) (w.heap.size + 1) ∧ Below w.heap.size w ((w.alloc (.cells cs t)).alloc (.cells edZ t)) ∧ ((w.alloc (.cells cs t)).alloc (.cells edZ t)).heap.size = w.heap.size + 2 := by
  have e : (w.alloc (.cells cs t)).heap.size = w.heap.size + 1 := by simp
  have h1 := Bx.new (w.alloc (.cells cs t)) edZ t
  have h2 := Fx.new (w.alloc (.cells cs t)) edZ t
  rw [e] at h1 h2
  have hB := (Below.refl _ (w.alloc (.cells cs t))).alloc (Nat.le_refl _) (.cells edZ t)
  exact ⟨(Bx.new w cs t).below hB, (Fx.new w cs t).below' hB, h1, h2, ((Below.refl _ w).alloc (Nat.le_refl _) _).trans (hB.mono (by rw [e]; omega)), by simp⟩
set_option maxRecDepth 100000 in
set_option maxHeartbeats 3200000 in
theorem i_ownEnd (e : EdV) (T : Option Addr) (c : Nat) (w : World) (h : CellsAt w T (opF e.opts)) (hT : T = none → e.opts.length = 0 ∧ c = 0) (hn : e.opts.length + opTot e.opts ≤ 1048576) :
    Calls Try.prog 45 #[.agg (edL e T c)] w fun x w' => ∃ T' c', x = .returned (.agg (edL e T' c')) ∧ ownV w' w.heap.size 33 3 (.slice T' e.opts.length c') e.opts.length (opF e.opts) ∧ Below w.heap.size w w' := by
  have CC : Hid (∀ u : World, Below w.heap.size w u → Calls Try.prog 70 #[.slice T e.opts.length c] u fun x w' => ∃ v, x = .returned v ∧ ownV w' u.heap.size 33 3 v e.opts.length (opF e.opts) ∧ Below u.heap.size u w') := fun u hu => i_CloneOpt T c _ u (h.below hu) hT (by omega)
  have CS : Hid (∀ (j : Nat) (u : World), j < e.opts.length → Calls Try.prog 63 #[.string (opA e.opts j).data] u fun x w' => x = .returned (.string (opA e.opts j).data) ∧ Below u.heap.size u w') := fun j u hj => c_Clone _ u (by
    have h1 := opTot_take e.opts j hj
    have h2 := opTot_le e.opts (j + 1)
    unfold opSz at h1
    omega)
  have hat := fun j hj k hk => opF_at e.opts j hj k hk
  have hl : e.opts.length ≤ 1048576 := by omega
  have h2 := two_new w (edL e T c) 39
  clear h hT hn
  obtain ⟨id, knd, loc, rem, net, df, sum, opts⟩ := e
  simp only [edL] at *
  generalize hcs : opF opts = cs at *
  go_enter Try.func45, Try.ntmps45
  go_wp2_with fail
  obtain ⟨hA, hFA, hZ, hFZ, hB, hs0⟩ := h2
  generalize hW : (w.alloc _).alloc _ = w0 at *
  go_at_call 70
  refine (CC.out _ hB).mono ?_
  rintro x w1 ⟨v, rfl, hv, hb⟩
  obtain ⟨T', c', rfl⟩ := hv.form
  rw [hs0] at hv
  replace hA := hA.below hb
  replace hFA := hFA.below' hb
  replace hZ := hZ.below hb
  replace hFZ := hFZ.below' hb
  replace hB := hB.trans (hb.mono hB.size)
  have hs1 := hb.size
  rw [hs0] at hs1
  clear hb hs0 hW CC
  have a7 := hA.2 7 _ rfl
  have f7 := hFA.2 7
  have hA2 := hA.put 7 (.slice T' opts.length c')
  have hFA2 := hFA.put ⟨w.heap.size, 7, none⟩ (.slice T' opts.length c')
  have hZ2 := hZ.oth (c := w.heap.size) (j := 7) (by omega) (.slice T' opts.length c')
  have hFZ2 := hFZ.put ⟨w.heap.size, 7, none⟩ (.slice T' opts.length c')
  have hv2 := hv.lowset (b := w.heap.size) (j := 7) (by omega) (.slice T' opts.length c')
  have hB2 : Below w.heap.size w (w1.setCell ⟨w.heap.size, 7, none⟩ (.slice T' opts.length c')) := hB.setCell (p := ⟨w.heap.size, 7, none⟩) (Nat.le_refl _) _
  have k7 := hA2.2 7 _ rfl
  go_wp2_with fail
  generalize hWW : w1.setCell _ _ = w2 at *
  clear hWW hA hFA hZ hFZ hv hB a7 f7
  have hl2 : w.heap.size + 2 ≤ w2.heap.size := by
    have := hB2.size
    have := hZ2.1
    rcases hv2.shape with ⟨_, h0, _⟩ | ⟨g, cap, _, hg, hg2, _⟩
    · omega
    · omega
  clear hs1 k7
  generalize hl0 : opts.length = n at *
  go_loopw [12] (fun i wr => ∃ j : Nat, j ≤ n ∧ i = .int .i64 (j : Int) ∧ Bx wr w.heap.size [.int .i64 id, .int .i64 knd, .int .i64 loc, .int .i64 rem, .int .i64 net, .bool df, .bool sum, .slice T' n c'] ∧ Fx wr w.heap.size ∧ Bx wr (w.heap.size + 1) edZ.toList ∧ Fx wr (w.heap.size + 1) ∧ ownV wr (w.heap.size + 2) 33 3 (.slice T' n c') n cs ∧ Below w.heap.size w wr) (fun i _ => ((n : Int) - intOf i).toNat)
  case atStart => exact ⟨0, by omega, rfl, hA2, hFA2, hZ2, hFZ2, hv2, hB2⟩
  case round =>
    clear hA2 hFA2 hZ2 hFZ2 hv2 hB2 hl2
    obtain ⟨j, hj, rfl, hA, hFA, hZ, hFZ, hv, hB⟩ := hrel
    by_cases hlt : j < n
    · have hj1 : (j : Int) < (n : Int) := by omega
      rcases hv.shape with ⟨_, h0, _⟩ | ⟨g, cap, hve, hg, hg2, _⟩
      · omega
      simp only [Value.slice.injEq] at hve
      obtain ⟨rfl, _, rfl⟩ := hve
      have hx := fun k (hk : k < 3) => (hv.cell (j * 3 + k) (by omega)).trans (hat j (by omega) k hk)
      have hx0 := hx 0 (by omega)
      have hx1 := hx 1 (by omega)
      have hx2 := hx 2 (by omega)
      have CS2 : Hid (∀ u : World, Calls Try.prog 63 #[.string (opA opts j).data] u fun x w' => x = .returned (.string (opA opts j).data) ∧ Below u.heap.size u w') := fun u => CS.out j u hlt
      have hset : cs.set (j * 3 + 2) (.string (opA opts j).data) = cs := by
        have hq := hat j (by omega) 2 (by omega)
        simp only [opL] at hq
        refine List.ext_getElem? fun m => ?_
        rw [List.getElem?_set]
        split
        · rename_i hm
          subst hm
          split
          · exact hq.symm
          · rename_i h1; rw [List.getElem?_eq_none (by omega)] at hq; cases hq
        · rfl
      clear hat hx CS
      generalize opA opts j = o at *
      obtain ⟨cl, ty, da⟩ := o
      simp only [opL, List.getElem?_cons_zero, List.getElem?_cons_succ, Nat.add_zero] at hx0 hx1 hx2 CS2 hset
      have hq := (Below.refl wr.heap.size wr).alloc (Nat.le_refl _) (.cells #[.int .i64 cl, .int .i64 ty, .string da] 33)
      have hO := Bx.new wr #[.int .i64 cl, .int .i64 ty, .string da] 33
      have hC7 := hA.2 7 _ rfl
      have hX := (hA.below hq).2 7 _ rfl
      have hX2 := hO.2 2 _ rfl
      go_wp2_with fail
      generalize hU : wr.alloc _ = u at *
      have hOs : wr.heap.size < u.heap.size := hO.1
      clear hx0 hx1 hx2 hU
      go_region_held3 (fun w' => w'.cell? ⟨w.heap.size, 7, none⟩ = some (.slice (some ⟨g, 0, none⟩) n c') ∧ w'.cell? ⟨wr.heap.size, 2, none⟩ = some (.string da)) (go_keep)
        (first | (go_at_call 63; refine (CS2.out _).mono ?_; rintro e u1 ⟨rfl, hb⟩; have y7 := (hb.cell (p := ⟨w.heap.size, 7, none⟩) (show w.heap.size < u.drew.heap.size from lt_of_cell hX)).trans hX; have y2 := (hb.cell (p := ⟨wr.heap.size, 2, none⟩) (show wr.heap.size < u.drew.heap.size from hOs)).trans hX2; have hqb := hq.trans (((Below.refl u.heap.size u).drew.trans hb).mono hq.size); obtain ⟨z2, hz2⟩ := (hv.far hqb).has (j * 3 + 2) (by omega); have hf2 := (hv.far hqb).frozen (j * 3 + 2); have k7 := fun v => (World.cell?_setCell_other u1 ⟨g, j * 3 + 2, none⟩ ⟨w.heap.size, 7, none⟩ v (fun k => absurd (congrArg Addr.block k) (by simp; omega))).trans y7; have k2 := fun v => (World.cell?_setCell_other u1 ⟨g, j * 3 + 2, none⟩ ⟨wr.heap.size, 2, none⟩ v (fun k => absurd (congrArg Addr.block k) (by simp; omega))).trans y2))
      have hv3 := (hv.far hqb).stored (j * 3 + 2) (.string da)
      rw [hset] at hv3
      have hA3 := ((hA.below hqb).oth (c := g) (j := j * 3 + 2) (by omega) (.string da))
      have hFA3 := (hFA.below' hqb).put ⟨g, j * 3 + 2, none⟩ (.string da)
      have hZ3 := ((hZ.below hqb).oth (c := g) (j := j * 3 + 2) (by omega) (.string da))
      have hFZ3 := (hFZ.below' hqb).put ⟨g, j * 3 + 2, none⟩ (.string da)
      have hB3 : Below w.heap.size w (u1.setCell ⟨g, j * 3 + 2, none⟩ (.string da)) := (hB.trans (hqb.mono hB.size)).setCell (p := ⟨g, j * 3 + 2, none⟩) (show w.heap.size ≤ g by omega) _
      clear hA hFA hZ hFZ hv hB hqb hq hX hX2 hO hC7 y7 y2 k7 k2 hz2 hf2 hb hset CS2
      go_wp2
      go_roundw
      case rel => exact ⟨j + 1, by omega, by go_num, hA3, hFA3, hZ3, hFZ3, hv3, hB3⟩
      case measure => simp [intOf]; omega
    · have e : j = n := by omega
      subst e
      clear CS hat hl
      have a0 := hA.2 0 _ rfl
      have a1 := hA.2 1 _ rfl
      have a2 := hA.2 2 _ rfl
      have a3 := hA.2 3 _ rfl
      have a4 := hA.2 4 _ rfl
      have a5 := hA.2 5 _ rfl
      have a6 := hA.2 6 _ rfl
      have a7 := hA.2 7 _ rfl
      have z0 := hZ.2 0 _ rfl
      have z1 := hZ.2 1 _ rfl
      have z2 := hZ.2 2 _ rfl
      have z3 := hZ.2 3 _ rfl
      have z4 := hZ.2 4 _ rfl
      have z5 := hZ.2 5 _ rfl
      have z6 := hZ.2 6 _ rfl
      have z7 := hZ.2 7 _ rfl
      have f0 := hFZ.2
      go_wp2
      refine bodyPost_ret (v := .agg #[.int .i64 id, .int .i64 knd, .int .i64 loc, .int .i64 rem, .int .i64 net, .bool df, .bool sum, .slice T' j c']) ?_ rfl ⟨T', c', rfl, ?_, ?_⟩
      · simp [results, Try.results45, go_sem, z0, z1, z2, z3, z4, z5, z6, z7]
      · refine ownV.mono (B := w.heap.size + 2) ?_ (by omega)
        iterate 8 (refine ownV.lowset ?_ (by omega) _)
        exact hv
      · go_grown
end Go.Proofs.Ytnheppkjeoiipaa
