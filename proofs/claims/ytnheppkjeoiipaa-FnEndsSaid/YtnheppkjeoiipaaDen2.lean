/-
  Draws of ends: DrawEndOk, DrawMirrorOf.
-/
import Derived.Test.YtnheppkjeoiipaaDen1
import Derived.Test.YtnheppkjeoiipaaMir3
import Derived.Maps.AppendAt
namespace Go.Proofs.Ytnheppkjeoiipaa
open Go.RowKit Go.PlainAid
theorem ownV.asideO {w : World} {B : Nat} {E : TypeId} {k : Nat} {v : Value} {n : Nat} {xs : List Value} (h : ownV w B E k v n xs) {b j : Nat} (hb : ∀ x, v.ownBlock = some x → b ≠ x) (u : Value) : ownV (w.setCell ⟨b, j, none⟩ u) B E k v n xs := by
  rcases h.shape with ⟨rfl, rfl, rfl⟩ | ⟨g, cap, rfl, hB, _⟩
  · exact ownV.nil _ _ _ _
  · exact h.aside (hb g rfl) u
theorem wpList_append_valsG {w : World} {ops : Array Oper} {rest : List Oper} {o : Oper} {a : Act} {Q : Exit → Act → World → Prop} {S E : TypeId} {k b : Nat} {z : Array Value} (hi : InfV S E k b z) (hgd : o.guard = none) (s x : Operand)
    (ho : o.op = .call { callee := .builtin .append, args := #[s, x], argTypes := #[S, S] })
    (B : Nat) (v : Value) (n : Nat) (xs : List Value) (hs : a.eval s = v) (hown : ownV w B E k v n xs) (T : Option Addr) (m c : Nat) (ys : List Value) (hx : a.eval x = .slice T m c) (hT : T = none → m = 0 ∧ c = 0) (hy : ys.length = m * k) (hone : ∀ u ∈ ys, u.oneCell' = true) (hsrc : CellsAt w T ys)
    (hl : n + m ≤ 1099511627776) (hB : B ≤ w.heap.size)
    (h : ∀ v' w', ownV w' B E k v' (n + m) (xs ++ ys) → w.grownBy w' v.ownBlock → (v'.ownBlock = v.ownBlock ∨ v'.ownBlock = some w.heap.size) → wpList Try.prog ops Q rest (a.put o.dst v') w') : wpList Try.prog ops Q (o :: rest) a w := by
  obtain ⟨i0, hi0, hz0, hz1, hz2⟩ := info_parts hi.inf
  have hle := hi.le
  have hpos := hi.pos
  cases hTT : T with
  | none =>
    obtain ⟨rfl, rfl⟩ := hT hTT
    subst hTT
    have hys : ys = [] := by simpa using hy
    subst hys
    refine wpList_append_own_none hgd s x S ho B E i0 k hi.und hi0 v n xs hs hown hx ?_
    exact h v w (by simpa using hown) (grownBy_refl _ _) (.inl rfl)
  | some ad =>
    subst hTT
    have hmk : (n + m) * b ≤ 140737488355328 := by
      calc (n + m) * b ≤ (n + m) * 128 := Nat.mul_le_mul_left _ (by omega)
        _ ≤ 140737488355328 := by omega
    refine Go.wpList_append_own_at w hgd s x S ho B E i0 _ k b hi.und hi0 hz0 hz1 hz2 (by simpa [Value.cells] using hi.zk) hpos v n xs hs hown ad m c ys hx hy ?_ hone (by unfold maxLen; omega) hmk hB ?_
    · intro j u hj
      rcases hsrc with hsrc | ⟨g, off, hT2, hg, hc⟩
      · subst hsrc; simp at hj
      · have hj' : j < ys.length := (List.getElem?_eq_some_iff.1 hj).1
        simp only [Option.some.injEq] at hT2
        subst hT2
        rw [plain_add, hc j hj']; exact hj
    · intro v' w' h2 h3 _ h5
      exact h v' w' h2 h3 h5
theorem Fx.keptO {W W' : World} {b : Nat} {r : Option Nat} (h : Fx W b) (hg : W.grownBy W' r) (hr : ∀ x, r = some x → b ≠ x) : Fx W' b :=
  ⟨Nat.lt_of_lt_of_le h.1 hg.size, fun j => (World.frozen?_of_block (w := W) (a := ⟨b, j, none⟩) (hg.block b h.1 (by intro hx; exact hr b hx.symm rfl))).trans (h.2 j)⟩
/-- what is drawn as an end -/
def EndD (w w' : World) (x : Ending) : Prop := ∃ (e : EdV) (T : Option Addr) (c : Nat), x = .returned (.agg (edL e T c)) ∧ ownV w' w.heap.size 33 3 (.slice T e.opts.length c) e.opts.length (opF e.opts) ∧ e.opts.length ≤ 4 ∧ opTot e.opts ≤ 1004 ∧ Below w.heap.size w w'
set_option maxRecDepth 100000 in
set_option maxHeartbeats 6400000 in
theorem d_EndOk (B : Nat) (C : Option Addr) (len cap : Nat) (w : World) (h : Code w B C len) :
    Calls Try.prog 49 #[.slice C len cap] w fun x w' => EndD w w' x := by
  have hb0 : Below w.heap.size w (w.alloc (.cells edZ 39)) := (Below.refl _ w).alloc (Nat.le_refl _) _
  have hC := h.below (hb0.mono h.2.1)
  have hZ : Bx (w.alloc (.cells edZ 39)) w.heap.size edZ.toList := Bx.new w _ _
  have hFZ : Fx (w.alloc (.cells edZ 39)) w.heap.size := Fx.new w _ _
  have hlt : w.heap.size < (w.alloc (.cells edZ 39)).heap.size := by simp
  clear h
  go_enter Try.func49, Try.ntmps49
  go_wp2_with fail
  generalize w.alloc _ = w0 at *
  refine (r_Open B C len cap _ hC).mono ?_
  rintro e w1 ⟨rfl, hR, hb, hs1⟩
  replace hZ := hZ.below hb
  replace hFZ := hFZ.below' hb
  have hB := hb0.trans (hb.mono hb0.size)
  clear hb hb0 hC
  go_wp2_with fail
  refine (r_off _ C len cap _ _ _ (by omega) (by omega) (by omega) (by omega) hR).mono ?_
  rintro e w2 ⟨id, rfl, _, _, hR1, hO⟩
  replace hZ := hZ.onlyE hO (by omega)
  replace hFZ := hFZ.onlyE hO (by omega)
  replace hB := hB.trans (hO.below (by omega) hB.size)
  have hs2 := hO.size
  clear hR hO
  go_wp2_with fail
  refine (r_end _ C len cap id _ hR1).mono ?_
  rintro x w3 ⟨⟨id, knd, loc, rem, net, df, sum, opts⟩, T, c, rfl, hv, hl, ht, hR, hO⟩
  simp only at hv hl ht
  simp only [edL]
  replace hZ := hZ.onlyE hO (by omega)
  replace hFZ := hFZ.onlyE hO (by omega)
  replace hB := hB.trans (hO.below (by omega) hB.size)
  have hs3 := hO.size
  have lv := World.ownsRow.lt hv
  clear hR1 hO
  have hq := (Below.refl w3.heap.size w3).alloc (Nat.le_refl _) (.cells #[.int .i64 id, .int .i64 knd, .int .i64 loc, .int .i64 rem, .int .i64 net, .bool df, .bool sum, .slice T opts.length c] 39)
  have hX := Bx.new w3 #[.int .i64 id, .int .i64 knd, .int .i64 loc, .int .i64 rem, .int .i64 net, .bool df, .bool sum, .slice T opts.length c] 39
  have hFX := Fx.new w3 #[.int .i64 id, .int .i64 knd, .int .i64 loc, .int .i64 rem, .int .i64 net, .bool df, .bool sum, .slice T opts.length c] 39
  replace hZ := hZ.below hq
  replace hFZ := hFZ.below' hq
  replace hB := hB.trans (hq.mono hB.size)
  replace hv := hv.far hq
  replace hR := hR.far hq
  clear hq
  go_wp2_with fail
  generalize hU : w3.alloc _ = u3 at *
  clear hU
  refine (r_below _ C len cap _ _ (by omega) hR).mono ?_
  rintro e u4 ⟨y, rfl, hy0, hy1, hR1, hO⟩
  replace hZ := hZ.onlyE hO (by omega)
  replace hFZ := hFZ.onlyE hO (by omega)
  replace hX := hX.onlyE hO (by omega)
  replace hFX := hFX.onlyE hO (by omega)
  replace hB := hB.trans (hO.below (by omega) hB.size)
  replace hv := ownV_only hv hO (by omega)
  clear hR hO hy0 hy1
  have hlv : ∀ x, (Value.slice T opts.length c).ownBlock = some x → w3.heap.size ≠ x := fun x hx => by have := (lv x hx).2; omega
  by_cases h0 : y = 0
  · subst h0
    go_wp2_with fail
    refine (r_off _ C len cap _ _ _ (by omega) (by omega) (by omega) (by omega) hR1).mono ?_
    rintro e u5 ⟨k, rfl, _, _, hR, hO⟩
    replace hZ := hZ.onlyE hO (by omega)
    replace hFZ := hFZ.onlyE hO (by omega)
    replace hX := hX.onlyE hO (by omega)
    replace hFX := hFX.onlyE hO (by omega)
    replace hB := hB.trans (hO.below (by omega) hB.size)
    replace hv := ownV_only hv hO (by omega)
    clear hR1 hO
    have x0 := hX.2 0 _ rfl; have x1 := hX.2 1 _ rfl; have x2 := hX.2 2 _ rfl; have x3 := hX.2 3 _ rfl; have x4 := hX.2 4 _ rfl; have x5 := hX.2 5 _ rfl; have x6 := hX.2 6 _ rfl; have x7 := hX.2 7 _ rfl
    have z0 := hZ.2 0 _ rfl; have z1 := hZ.2 1 _ rfl; have z2 := hZ.2 2 _ rfl; have z3 := hZ.2 3 _ rfl; have z4 := hZ.2 4 _ rfl; have z5 := hZ.2 5 _ rfl; have z6 := hZ.2 6 _ rfl; have z7 := hZ.2 7 _ rfl
    have f0 := hFZ.2
    have g0 := hFX.2
    have hn1 : ¬ (w.heap.size = w3.heap.size) := by omega
    have hn2 : ¬ (w3.heap.size = w.heap.size) := by omega
    clear hR
    go_wp2
    refine bodyPost_ret (v := .agg #[.int .i64 id, .int .i64 k, .int .i64 loc, .int .i64 rem, .int .i64 net, .bool df, .bool sum, .slice T opts.length c]) ?_ rfl ⟨⟨id, k, loc, rem, net, df, sum, opts⟩, _, _, rfl, ?_, by simp only; omega, by simp only; omega, ?_⟩
    · simp [results, Try.results49, go_sem, z0, z1, z2, z3, z4, z5, z6, z7]
    · refine ownV.mono (B := w2.heap.size) ?_ (by omega)
      iterate 8 (refine ownV.lowset ?_ (by omega) _)
      refine ownV.asideO ?_ hlv _
      exact hv
    · go_grown
  have h0b : (y == 0) = false := by simp [h0]
  by_cases h1 : y = 1
  · subst h1
    go_wp2_with fail
    refine (r_off _ C len cap _ _ _ (by omega) (by omega) (by omega) (by omega) hR1).mono ?_
    rintro e u5 ⟨k, rfl, _, _, hR, hO⟩
    replace hZ := hZ.onlyE hO (by omega)
    replace hFZ := hFZ.onlyE hO (by omega)
    replace hX := hX.onlyE hO (by omega)
    replace hFX := hFX.onlyE hO (by omega)
    replace hB := hB.trans (hO.below (by omega) hB.size)
    replace hv := ownV_only hv hO (by omega)
    clear hR1 hO
    have x0 := hX.2 0 _ rfl; have x1 := hX.2 1 _ rfl; have x2 := hX.2 2 _ rfl; have x3 := hX.2 3 _ rfl; have x4 := hX.2 4 _ rfl; have x5 := hX.2 5 _ rfl; have x6 := hX.2 6 _ rfl; have x7 := hX.2 7 _ rfl
    have z0 := hZ.2 0 _ rfl; have z1 := hZ.2 1 _ rfl; have z2 := hZ.2 2 _ rfl; have z3 := hZ.2 3 _ rfl; have z4 := hZ.2 4 _ rfl; have z5 := hZ.2 5 _ rfl; have z6 := hZ.2 6 _ rfl; have z7 := hZ.2 7 _ rfl
    have f0 := hFZ.2
    have g0 := hFX.2
    have hn1 : ¬ (w.heap.size = w3.heap.size) := by omega
    have hn2 : ¬ (w3.heap.size = w.heap.size) := by omega
    clear hR
    go_wp2
    refine bodyPost_ret (v := .agg #[.int .i64 id, .int .i64 knd, .int .i64 loc, .int .i64 rem, .int .i64 k, .bool df, .bool sum, .slice T opts.length c]) ?_ rfl ⟨⟨id, knd, loc, rem, k, df, sum, opts⟩, _, _, rfl, ?_, by simp only; omega, by simp only; omega, ?_⟩
    · simp [results, Try.results49, go_sem, z0, z1, z2, z3, z4, z5, z6, z7]
    · refine ownV.mono (B := w2.heap.size) ?_ (by omega)
      iterate 8 (refine ownV.lowset ?_ (by omega) _)
      refine ownV.asideO ?_ hlv _
      exact hv
    · go_grown
  have h1b : (y == 1) = false := by simp [h1]
  by_cases h2 : y = 2
  · subst h2
    have x0 := hX.2 0 _ rfl; have x1 := hX.2 1 _ rfl; have x2 := hX.2 2 _ rfl; have x3 := hX.2 3 _ rfl; have x4 := hX.2 4 _ rfl; have x5 := hX.2 5 _ rfl; have x6 := hX.2 6 _ rfl; have x7 := hX.2 7 _ rfl
    have hcn := cells_new u4 [.int .i64 0, .int .i64 0, .string ⟨#[97, 98, 99, 100]⟩] 33
    have hone := oneOpG ⟨0, 0, ⟨#[97, 98, 99, 100]⟩⟩
    have hsz4 := hX.1
    have hq4 := (Below.refl _ u4).alloc (Nat.le_refl _) (.cells #[.int .i64 0, .int .i64 0, .string ⟨#[97, 98, 99, 100]⟩] 33)
    have hZ4 := hZ.below hq4
    have hFZ4 := hFZ.below' hq4
    have hX4 := hX.below hq4
    have hFX4 := hFX.below' hq4
    have hB4 := hB.trans (hq4.mono hB.size)
    have hlz : ∀ x, (Value.slice T opts.length c).ownBlock = some x → w.heap.size ≠ x := fun x hx => by have := (lv x hx).1; omega
    have HT : Hid (opTot (opts ++ [⟨0, 0, ⟨#[97, 98, 99, 100]⟩⟩]) ≤ 1004) := by show _ ≤ _; rw [opTot_app1]; have : opSz ⟨0, 0, ⟨#[97, 98, 99, 100]⟩⟩ = 4 := rfl; omega
    have HN : Hid ((opts ++ [(⟨0, 0, ⟨#[97, 98, 99, 100]⟩⟩ : OpV)]).length = opts.length + 1) := by show _ = _; simp
    have HF : Hid (opF (opts ++ [⟨0, 0, ⟨#[97, 98, 99, 100]⟩⟩]) = opF opts ++ [.int .i64 0, .int .i64 0, .string ⟨#[97, 98, 99, 100]⟩]) := by show _ = _; rw [opF_app]; rfl
    go_wp2_with (at_builtin; refine wpList_append_valsG Try.infOpt rfl _ _ rfl w2.heap.size _ _ _ rfl (hv.alloc _) _ 1 1 [.int .i64 0, .int .i64 0, .string ⟨#[97, 98, 99, 100]⟩] rfl (by simp) rfl hone hcn (by omega) (by simp; omega) ?_; intro v' w8 hv8 hb8 ho8; obtain ⟨T', c', rfl⟩ := hv8.form; have lv8 := World.ownsRow.lt hv8; have hX8 := hX4.keptO hb8 hlv; have hFX8 := hFX4.keptO hb8 hlv; have hZ8 := hZ4.keptO hb8 hlz; have hFZ8 := hFZ4.keptO hb8 hlz; have hB8 := hB4.grown hb8 hB4.size (fun x hx => by have := (lv x hx).1; omega); have hz8 := hb8.size; have hl8 : ∀ x, (Value.slice T' (opts.length + 1) c').ownBlock = some x → w3.heap.size ≠ x := (fun x hx => by rcases ho8 with h | h <;> rw [h] at hx <;> first | exact hlv x hx | (simp at hx; omega)); clear ho8; clear hX4 hFX4 hZ4 hFZ4 hB4 hb8 x0 x1 x2 x3 x4 x5 x6 x7; have x0 := hX8.2 0 _ rfl; have x1 := hX8.2 1 _ rfl; have x2 := hX8.2 2 _ rfl; have x3 := hX8.2 3 _ rfl; have x4 := hX8.2 4 _ rfl; have x5 := hX8.2 5 _ rfl; have x6 := hX8.2 6 _ rfl; have x7 := hX8.2 7 _ rfl; have z0 := hZ8.2 0 _ rfl; have z1 := hZ8.2 1 _ rfl; have z2 := hZ8.2 2 _ rfl; have z3 := hZ8.2 3 _ rfl; have z4 := hZ8.2 4 _ rfl; have z5 := hZ8.2 5 _ rfl; have z6 := hZ8.2 6 _ rfl; have z7 := hZ8.2 7 _ rfl; have f0 := hFZ8.2; have g0 := hFX8.2; have hn1 : ¬ (w.heap.size = w3.heap.size) := (by omega); have hn2 : ¬ (w3.heap.size = w.heap.size) := (by omega))
    go_wp2
    refine bodyPost_ret (v := .agg #[.int .i64 id, .int .i64 knd, .int .i64 loc, .int .i64 rem, .int .i64 net, .bool df, .bool sum, .slice T' (opts.length + 1) c']) ?_ rfl ⟨⟨id, knd, loc, rem, net, df, sum, opts ++ [⟨0, 0, ⟨#[97, 98, 99, 100]⟩⟩]⟩, T', c', ?_, ?_, ?_, HT.out, ?_⟩
    · simp [results, Try.results49, go_sem, z0, z1, z2, z3, z4, z5, z6, z7]
    · simp only [edL]; rw [HN.out]
    · show ownV _ _ _ _ (.slice T' (opts ++ [(⟨0, 0, ⟨#[97, 98, 99, 100]⟩⟩ : OpV)]).length c') (opts ++ [(⟨0, 0, ⟨#[97, 98, 99, 100]⟩⟩ : OpV)]).length (opF (opts ++ [(⟨0, 0, ⟨#[97, 98, 99, 100]⟩⟩ : OpV)]))
      rw [HN.out, HF.out]
      refine ownV.mono (B := w2.heap.size) ?_ (by omega)
      iterate 8 (refine ownV.lowset ?_ (by omega) _)
      refine ownV.asideO ?_ hl8 _
      exact hv8
    · show (opts ++ [(⟨0, 0, ⟨#[97, 98, 99, 100]⟩⟩ : OpV)]).length ≤ 4
      rw [HN.out]; omega
    · go_grown
  have h2b : (y == 2) = false := by simp [h2]
  by_cases h3 : y = 3
  · subst h3
    go_wp2_with fail
    refine (r_off _ C len cap _ _ _ (by omega) (by omega) (by omega) (by omega) hR1).mono ?_
    rintro e u5 ⟨k, rfl, _, _, hR, hO⟩
    replace hZ := hZ.onlyE hO (by omega)
    replace hFZ := hFZ.onlyE hO (by omega)
    replace hX := hX.onlyE hO (by omega)
    replace hFX := hFX.onlyE hO (by omega)
    replace hB := hB.trans (hO.below (by omega) hB.size)
    replace hv := ownV_only hv hO (by omega)
    clear hR1 hO
    have x0 := hX.2 0 _ rfl; have x1 := hX.2 1 _ rfl; have x2 := hX.2 2 _ rfl; have x3 := hX.2 3 _ rfl; have x4 := hX.2 4 _ rfl; have x5 := hX.2 5 _ rfl; have x6 := hX.2 6 _ rfl; have x7 := hX.2 7 _ rfl
    have z0 := hZ.2 0 _ rfl; have z1 := hZ.2 1 _ rfl; have z2 := hZ.2 2 _ rfl; have z3 := hZ.2 3 _ rfl; have z4 := hZ.2 4 _ rfl; have z5 := hZ.2 5 _ rfl; have z6 := hZ.2 6 _ rfl; have z7 := hZ.2 7 _ rfl
    have f0 := hFZ.2
    have g0 := hFX.2
    have hn1 : ¬ (w.heap.size = w3.heap.size) := by omega
    have hn2 : ¬ (w3.heap.size = w.heap.size) := by omega
    clear hR
    go_wp2
    refine bodyPost_ret (v := .agg #[.int .i64 id, .int .i64 knd, .int .i64 k, .int .i64 rem, .int .i64 net, .bool df, .bool sum, .slice T opts.length c]) ?_ rfl ⟨⟨id, knd, k, rem, net, df, sum, opts⟩, _, _, rfl, ?_, by simp only; omega, by simp only; omega, ?_⟩
    · simp [results, Try.results49, go_sem, z0, z1, z2, z3, z4, z5, z6, z7]
    · refine ownV.mono (B := w2.heap.size) ?_ (by omega)
      iterate 8 (refine ownV.lowset ?_ (by omega) _)
      refine ownV.asideO ?_ hlv _
      exact hv
    · go_grown
  have h3b : (y == 3) = false := by simp [h3]
  have x0 := hX.2 0 _ rfl; have x1 := hX.2 1 _ rfl; have x2 := hX.2 2 _ rfl; have x3 := hX.2 3 _ rfl; have x4 := hX.2 4 _ rfl; have x5 := hX.2 5 _ rfl; have x6 := hX.2 6 _ rfl; have x7 := hX.2 7 _ rfl
  have z0 := hZ.2 0 _ rfl; have z1 := hZ.2 1 _ rfl; have z2 := hZ.2 2 _ rfl; have z3 := hZ.2 3 _ rfl; have z4 := hZ.2 4 _ rfl; have z5 := hZ.2 5 _ rfl; have z6 := hZ.2 6 _ rfl; have z7 := hZ.2 7 _ rfl
  have f0 := hFZ.2
  have g0 := hFX.2
  have hn1 : ¬ (w.heap.size = w3.heap.size) := by omega
  have hn2 : ¬ (w3.heap.size = w.heap.size) := by omega
  clear hR1
  go_wp2
  refine bodyPost_ret (v := .agg #[.int .i64 id, .int .i64 knd, .int .i64 loc, .int .i64 rem, .int .i64 net, .bool df, .bool sum, .slice T opts.length c]) ?_ rfl ⟨⟨id, knd, loc, rem, net, df, sum, opts⟩, _, _, rfl, ?_, by simp only; omega, by simp only; omega, ?_⟩
  · simp [results, Try.results49, go_sem, z0, z1, z2, z3, z4, z5, z6, z7]
  · refine ownV.mono (B := w2.heap.size) ?_ (by omega)
    iterate 8 (refine ownV.lowset ?_ (by omega) _)
    exact hv
  · go_grown
end Go.Proofs.Ytnheppkjeoiipaa
