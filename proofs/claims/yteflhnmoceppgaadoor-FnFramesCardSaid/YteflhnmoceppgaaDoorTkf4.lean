/-
  Frames that are taken off a text: the program's closures.
-/
import Derived.Test.YteflhnmoceppgaaDoorTkf3
import Derived.RangeFuncBox
import Derived.Deep.RegionWith
import Derived.Test.YteflhnmoceppgaaDoorRin2
namespace Go.Proofs.YteflhnmoceppgaaDoor
open Go.RowKit Go.PlainAid
theorem opwp_append_strs {W : World} {o : Oper} {a : Act} {K : Act → World → Prop} {Q : Exit → Act → World → Prop} (s x : Operand)
    (ho : o.op = .call { callee := .builtin .append, args := #[s, x], argTypes := #[25, 25] })
    (B : Nat) (v : Value) (n : Nat) (xs : List Value) (hs : a.eval s = v) (hown : ownV W B 9 1 v n xs) (ad : Addr) (m c : Nat) (ys : List Value) (hx : a.eval x = .slice (some ad) m c) (hy : ys.length = m * 1) (hone : ∀ u ∈ ys, u.oneCell' = true) (hsrc : ∀ j u, ys[j]? = some u → W.cell? (ad.add j) = some u)
    (hl : n + m ≤ 1099511627776) (hB : B ≤ W.heap.size)
    (h : ∀ v' w', ownV w' B 9 1 v' (n + m) (xs ++ ys) → W.grownBy w' v.ownBlock → K (a.put o.dst v') w') : Oper.wp Tryd.prog o a W K Q := by
  have hinfo : (Tryd.prog.info? 9).map (fun i => (i.zero, i.size, i.bytes)) = some (some (.string ByteArray.empty), 1, 16) := by kernel_rfl
  obtain ⟨i0, hi0, hz0, hz1, hz2⟩ := info_parts hinfo
  refine wp_append_own _ s x 25 ho B 9 i0 _ 1 16 Tryd.underlying25 hi0 hz0 hz1 hz2 rfl (by decide) v n xs hs hown ad m c ys hx hy hsrc hone (by unfold maxLen; omega) (by omega) hB ?_
  intro v' w' h2 h3 _
  exact h v' w' h2 h3
/-- only block F, block b and the row v have turned -/
structure Kp3 (F b : Nat) (v : Value) (w w' : World) : Prop where
  low : Below 0 w w'
  block : ∀ k, k < w.heap.size → k ≠ F → k ≠ b → v.ownBlock ≠ some k → w'.heap[k]? = w.heap[k]?
/-- what the closure finds: the list so far in box F, the reader in box R -/
structure TkS (s : ByteArray) (a : Nat) (wh : Nat) (L : List ByteArray) (v : Value) (B F R b : Nat) (w : World) : Prop where
  list : Boxed w F 25 v
  row : ownV w B 9 1 v L.length (stF L)
  rd : Boxed w R 34 (.pointer (some ⟨b, 0, none⟩))
  box : Bx w b (rdx4 s a false wh)
  free : Fx w b
  tab : CrcTab w
  far : B ≤ w.heap.size ∧ F < B ∧ R < B ∧ b < B ∧ F ≠ b ∧ R ≠ b ∧ F ≠ R ∧ 0 ≠ b ∧ 0 ≠ F ∧ 0 < B
set_option maxRecDepth 100000 in
set_option maxHeartbeats 6400000 in
theorem c_take_no (s : ByteArray) (a : Nat) (L : List ByteArray) (v : Value) (B F R b : Nat) (w : World) (ha : a ≤ s.size) (hs : s.size ≤ 1048576) (h : TkS s a a L v B F R b w) (hno : tkOk s a = false) :
    Calls Tryd.prog 18 #[.pointer (some ⟨F, 0, none⟩), .pointer (some ⟨R, 0, none⟩)] w fun e w' => e = .panicked [{ v := .iface 50 (.int .i64 (a : Int)), recovered := false }] ∧ w.grownBy w' (some b) := by
  have CF : Hid (∀ u : World, u.heap = w.heap → Below w.heap.size w u → Calls Tryd.prog 19 #[.pointer (some ⟨b, 0, none⟩)] u fun e w' => e = .panicked [{ v := .iface 50 (.int .i64 (a : Int)), recovered := false }] ∧ u.grownBy w' (some b)) := fun u hu hb => by
    refine (i_frame s a b u ha hs (h.box.below hb) (h.free.below hb) (h.tab.below hb) h.far.2.2.2.2.2.2.2.1).mono ?_
    rintro e w' (⟨hk, _⟩ | ⟨_, he, p, f, hx⟩)
    · rw [hno] at hk; cases hk
    · exact ⟨he, hx.grown⟩
  have hl := h.list.cell
  have hr := h.rd.cell
  obtain ⟨T, c, rfl⟩ := h.row.form
  have hBr := Below.refl w.heap.size w
  clear h hno
  go_enter Tryd.func18, Tryd.ntmps18
  go_wp2_with fail
  refine wp_region_inv (fun v => ⟨#[.pointer (some ⟨F, 0, none⟩), .pointer (some ⟨R, 0, none⟩), v 0, v 1, v 2, v 3, v 4], []⟩) (fun L1 v u => u = w.drew ∧ L1 2 = false ∧ L1 3 = false ∧ L1 4 = false ∧ (L1 1 = true → v 1 = .pointer (some ⟨b, 0, none⟩))) (fun _ => undef) (by kernel_rfl) (by kernel_rfl) rfl ?_ ?_ ?_
  case refine_1 =>
    intro L1 hL1
    exact ⟨rfl, hL1 2 (by decide), hL1 3 (by decide), hL1 4 (by decide), fun h => by rw [hL1 1 (by decide)] at h; cases h⟩
  case refine_2 =>
    refine Steps.cons rfl (fun L1 v u hJ hL1 hd K1 hK => ?_) ?_
    · obtain ⟨rfl, h2, h3, h4, h1⟩ := hJ
      clear hd
      go_simp
      exact hK (updV v 0 _) _ ⟨rfl, by simpa [updB] using h2, by simpa [updB] using h3, by simpa [updB] using h4, fun h => (updV_ne _ _ (by decide)).trans (h1 (by simpa [updB] using h))⟩
    refine Steps.cons rfl (fun L1 v u hJ hL1 hd K1 hK => ?_) ?_
    · obtain ⟨rfl, h2, h3, h4, h1⟩ := hJ
      clear hd
      go_simp
      exact hK (updV v 1 _) _ ⟨rfl, by simpa [updB] using h2, by simpa [updB] using h3, by simpa [updB] using h4, fun _ => updV_same _ _ _⟩
    refine Steps.cons rfl (fun L1 v u hJ hL1 hd K1 hK => ?_) ?_
    · obtain ⟨rfl, h2, h3, h4, h1⟩ := hJ
      have e1 := h1 (hd ⟨1, .data⟩ (by simp) rfl)
      clear hd
      go_simp
      refine (CF.out w.drew rfl hBr.drew).mono ?_
      rintro e w3 ⟨rfl, hg3⟩
      exact ⟨rfl, rfl, gby_trans (gby_below hBr.drew _) hg3⟩
    refine Steps.cons rfl (fun L1 v u hJ hL1 hd K1 hK => ?_) ?_
    · have := hd ⟨2, .data⟩ (by simp) rfl
      rw [hJ.2.1] at this; cases this
    refine Steps.cons rfl (fun L1 v u hJ hL1 hd K1 hK => ?_) ?_
    · have := hd ⟨3, .data⟩ (by simp) rfl
      rw [hJ.2.2.1] at this; cases this
    refine Steps.cons rfl (fun L1 v u hJ hL1 hd K1 hK => ?_) ?_
    · have := hd ⟨4, .data⟩ (by simp) rfl
      rw [hJ.2.2.2.1] at this; cases this
    exact Steps.nil
  case refine_3 =>
    intro L1 v u hJ hL1
    have := hL1 2 (by decide)
    rw [hJ.2.1] at this; cases this
theorem Kp3.refl {F b : Nat} {v : Value} (w : World) : Kp3 F b v w w := ⟨Below.refl _ _, fun _ _ _ _ _ => rfl⟩
theorem Kp3.drew {F b : Nat} {v : Value} {w u : World} (h : Kp3 F b v w u) : Kp3 F b v w u.drew := ⟨h.low.drew, h.block⟩
theorem Kp3.step {F b : Nat} {v : Value} {w u u' : World} {r : Option Nat} (h : Kp3 F b v w u) (hg : u.grownBy u' r) (hr : r = none ∨ r = some F ∨ r = some b ∨ r = v.ownBlock) : Kp3 F b v w u' :=
  ⟨h.low.grown hg (Nat.zero_le _) (fun _ _ => Nat.zero_le _), fun k hk h1 h2 h3 => (hg.block k (Nat.lt_of_lt_of_le hk h.low.size) (fun e => by
    rcases hr with hr | hr | hr | hr
    · rw [hr] at e; cases e
    · rw [hr] at e; cases e; exact h1 rfl
    · rw [hr] at e; cases e; exact h2 rfl
    · rw [hr] at e; exact h3 e.symm)).trans (h.block k hk h1 h2 h3)⟩
theorem Bx.keptT {A B : World} {b : Nat} {vs : List Value} {row : Option Nat} (h : Bx A b vs) (hg : A.grownBy B row) (hne : ¬ row = some b) : Bx B b vs :=
  ⟨Nat.lt_of_lt_of_le h.1 hg.size, fun i v hv => (World.cell?_of_block (w := A) (a := ⟨b, i, none⟩) (hg.block b h.1 (fun e => hne e.symm))).trans (h.2 i v hv)⟩
theorem Fx.keptT {A B : World} {b : Nat} {row : Option Nat} (h : Fx A b) (hg : A.grownBy B row) (hne : ¬ row = some b) : Fx B b :=
  ⟨Nat.lt_of_lt_of_le h.1 hg.size, fun j => (World.frozen?_of_block (w := A) (a := ⟨b, j, none⟩) (hg.block b h.1 (fun e => hne e.symm))).trans (h.2 j)⟩
theorem ownV.keptT {w w' : World} {B : Nat} {E : TypeId} {k : Nat} {v : Value} {n : Nat} {xs : List Value} {row : Option Nat} (h : ownV w B E k v n xs) (hg : w.grownBy w' row) (hne : ∀ b, v.ownBlock = some b → ¬ row = some b) : ownV w' B E k v n xs := by
  refine World.ownsRow.kept h hg ?_
  cases hv : v.ownBlock with
  | none => exact .inl rfl
  | some b => exact .inr fun e => hne b hv e.symm
structure TkJ (w : World) (s : ByteArray) (a : Nat) (L : List ByteArray) (T : Option Addr) (c B F R b : Nat) (L1 : Nat → Bool) (v : Nat → Value) (u : World) : Prop where
  st : L1 2 = false → u = w.drew
  v0 : L1 0 = true → v 0 = .slice T L.length c
  v1 : L1 1 = true → v 1 = .pointer (some ⟨b, 0, none⟩)
  v2 : L1 2 = true → v 2 = .string (tkD s a)
  pa : L1 5 = false → Boxed u F 25 (.slice T L.length c)
  pr : Boxed u R 34 (.pointer (some ⟨b, 0, none⟩))
  pb : L1 2 = true → Bx u b (rdx4 s ((a : Int) + 8 + (tkN s a : Int)) false a) ∧ Fx u b
  kp : Kp3 F b (.slice T L.length c) w u
  row : L1 4 = false → ownV u B 9 1 (.slice T L.length c) L.length (stF L)
  v3 : L1 3 = true → L1 4 = false → ∃ g, v 3 = .slice (some ⟨g, 0, none⟩) 1 1 ∧ u.cell? ⟨g, 0, none⟩ = some (.string (tkD s a))
  v4 : L1 4 = true → ownV u B 9 1 (v 4) (L.length + 1) (stF L ++ [.string (tkD s a)])
  fin : L1 5 = true → Boxed u F 25 (v 4)
  all : L1 5 = true → L1 0 = true ∧ L1 1 = true
  d3 : L1 3 = true → L1 2 = true
  d4 : L1 4 = true → L1 3 = true
  d5 : L1 5 = true → L1 4 = true
theorem not_true_of {x y : Bool} (h : x = false) (h2 : y = true → x = true) : y = false := by cases y; rfl; rw [h2 rfl] at h; cases h
set_option maxRecDepth 100000 in
set_option maxHeartbeats 6400000 in
theorem c_take_yes (s : ByteArray) (a : Nat) (L : List ByteArray) (v : Value) (B F R b : Nat) (w : World) (ha : a ≤ s.size) (hs : s.size ≤ 1048576) (hLa : L.length ≤ a) (h : TkS s a a L v B F R b w) (hok : tkOk s a = true) :
    Calls Tryd.prog 18 #[.pointer (some ⟨F, 0, none⟩), .pointer (some ⟨R, 0, none⟩)] w fun e w' => e = .returned (.tuple #[]) ∧ (∃ v', TkS s (a + 8 + tkN s a) a (L ++ [tkD s a]) v' B F R b w') ∧ Kp3 F b v w w' := by
  have CF : Hid (∀ u : World, Below w.heap.size w u → Calls Tryd.prog 19 #[.pointer (some ⟨b, 0, none⟩)] u fun e w' => e = .returned (.string (tkD s a)) ∧ Rx4 u w' b s (a + 8 + tkN s a) false a) := fun u hb => by
    refine (i_frame s a b u ha hs (h.box.below hb) (h.free.below hb) (h.tab.below hb) h.far.2.2.2.2.2.2.2.1).mono ?_
    rintro e w' (⟨_, he, hx⟩ | ⟨hk, _⟩)
    · exact ⟨he, hx⟩
    · rw [hok] at hk; cases hk
  obtain ⟨T, c, rfl⟩ := h.row.form
  have hBr := Below.refl w.heap.size w
  obtain ⟨f1, f2, f3, f4, f5, f6, f7, f8, f9, f10⟩ := h.far
  have hrowlt := fun k (hk : (Value.slice T L.length c).ownBlock = some k) => (World.ownsRow.lt h.row k hk).1
  go_enter Tryd.func18, Tryd.ntmps18
  go_wp2_with fail
  refine wp_region_inv (fun v => ⟨#[.pointer (some ⟨F, 0, none⟩), .pointer (some ⟨R, 0, none⟩), v 0, v 1, v 2, v 3, v 4], []⟩) (TkJ w s a L T c B F R b) (fun _ => undef) (by kernel_rfl) (by kernel_rfl) rfl ?_ ?_ ?_
  case refine_1 =>
    intro L1 hL1
    have z : ∀ j, j < 6 → L1 j = true → False := fun j hj h => by rw [hL1 j hj] at h; cases h
    exact ⟨fun _ => rfl, fun h => (z 0 (by decide) h).elim, fun h => (z 1 (by decide) h).elim, fun h => (z 2 (by decide) h).elim, fun _ => h.list, h.rd, fun h => (z 2 (by decide) h).elim, (Kp3.refl w).drew, fun _ => h.row, fun h => (z 3 (by decide) h).elim, fun h => (z 4 (by decide) h).elim, fun h => (z 5 (by decide) h).elim, fun h => (z 5 (by decide) h).elim, fun h => (z 3 (by decide) h).elim, fun h => (z 4 (by decide) h).elim, fun h => (z 5 (by decide) h).elim⟩
  case refine_2 =>
    refine Steps.cons rfl (fun L1 v u hJ hL1 hd K1 hK => ?_) ?_
    · have h5 := not_true_of hL1 (fun q => (hJ.all q).1)
      have hc := (hJ.pa h5).cell
      clear hd
      go_simp
      exact hK (updV v 0 _) u ⟨hJ.st, fun _ => rfl, hJ.v1, hJ.v2, hJ.pa, hJ.pr, hJ.pb, hJ.kp, hJ.row, hJ.v3, hJ.v4, hJ.fin, fun q => ⟨rfl, (hJ.all q).2⟩, hJ.d3, hJ.d4, hJ.d5⟩
    refine Steps.cons rfl (fun L1 v u hJ hL1 hd K1 hK => ?_) ?_
    · have hc := hJ.pr.cell
      clear hd
      go_simp
      exact hK (updV v 1 _) u ⟨hJ.st, hJ.v0, fun _ => rfl, hJ.v2, hJ.pa, hJ.pr, hJ.pb, hJ.kp, hJ.row, hJ.v3, hJ.v4, hJ.fin, fun q => ⟨(hJ.all q).1, rfl⟩, hJ.d3, hJ.d4, hJ.d5⟩
    refine Steps.cons rfl (fun L1 v u hJ hL1 hd K1 hK => ?_) ?_
    · have e1 := hJ.v1 (hd ⟨1, .data⟩ (by simp) rfl)
      have hu := hJ.st hL1
      have l3 := not_true_of hL1 hJ.d3
      have l4 := not_true_of l3 hJ.d4
      have l5 := not_true_of l4 hJ.d5
      clear hd
      subst hu
      go_simp
      refine (CF.out w.drew hBr.drew).mono ?_
      rintro e w3 ⟨rfl, hx⟩
      refine hK (updV (updV v 1 (.pointer (some ⟨b, 0, none⟩))) 2 _) w3 ?_
      rw [updV_eq e1]
      exact ⟨fun q => (by cases q), hJ.v0, hJ.v1, fun _ => rfl, fun _ => (hJ.pa l5).kept hx.grown (by simpa using f5), hJ.pr.kept hx.grown (by simpa using f6), fun _ => ⟨hx.box, hx.free⟩, hJ.kp.step hx.grown (.inr (.inr (.inl rfl))), fun _ => (hJ.row l4).keptT hx.grown (fun k hk e => (by cases e; have := hrowlt _ hk; omega)), fun q => (by rw [show L1 3 = true from q] at l3; cases l3), fun q => (by rw [show L1 4 = true from q] at l4; cases l4), fun q => (by rw [show L1 5 = true from q] at l5; cases l5), hJ.all, fun _ => rfl, hJ.d4, hJ.d5⟩
    refine Steps.cons rfl (fun L1 v u hJ hL1 hd K1 hK => ?_) ?_
    · have l2 := hd ⟨2, .data⟩ (by simp) rfl
      have e2 := hJ.v2 l2
      have l4 := not_true_of hL1 hJ.d4
      have l5 := not_true_of l4 hJ.d5
      have hg := World.grownBy_alloc u (.cells #[.string (tkD s a)] 9) none
      clear hd
      go_simp
      refine hK (updV (updV v 2 (.string (tkD s a))) 3 _) _ ?_
      rw [updV_eq e2]
      exact ⟨fun q => (by rw [show L1 2 = false from q] at l2; cases l2), hJ.v0, hJ.v1, hJ.v2, fun _ => (hJ.pa l5).alloc _, hJ.pr.alloc _, fun _ => ⟨(hJ.pb l2).1.keptT hg (by simp), (hJ.pb l2).2.keptT hg (by simp)⟩, hJ.kp.step hg (.inl rfl), fun _ => (hJ.row l4).alloc _, fun _ _ => ⟨_, rfl, (Boxed.new u _ _).cell⟩, fun q => (by rw [show L1 4 = true from q] at l4; cases l4), fun q => (by rw [show L1 5 = true from q] at l5; cases l5), hJ.all, fun _ => l2, fun _ => rfl, hJ.d5⟩
    refine Steps.cons rfl (fun L1 v u hJ hL1 hd K1 hK => ?_) ?_
    · have l3 := hd ⟨3, .data⟩ (by simp) rfl
      have l2 := hJ.d3 l3
      have e0 := hJ.v0 (hd ⟨0, .data⟩ (by simp) rfl)
      obtain ⟨g, e3, hgc⟩ := hJ.v3 l3 hL1
      have l5 := not_true_of hL1 hJ.d5
      clear hd
      refine opwp_append_strs (.tmp 2) (.tmp 5) rfl B _ L.length (stF L) e0 (hJ.row hL1) ⟨g, 0, none⟩ 1 1 [.string (tkD s a)] e3 rfl (stF_one [tkD s a]) (fun j y hj => by
        have : j = 0 := by have := (List.getElem?_eq_some_iff.1 hj).1; simpa using this
        subst this
        rw [plain_add, Nat.zero_add]
        simp at hj
        rw [hgc, hj]) (by omega) (Nat.le_trans f1 hJ.kp.low.size) ?_
      intro v7 w7 ho7 hg7
      have q5 : ∀ k, k < B → ¬ (Value.slice T L.length c).ownBlock = some k := fun k hk e => by have := hrowlt k e; omega
      exact hK (updV v 4 v7) w7 ⟨fun q => (by rw [show L1 2 = false from q] at l2; cases l2), hJ.v0, hJ.v1, hJ.v2, fun _ => (hJ.pa l5).kept hg7 (fun e => q5 F f2 e.symm), hJ.pr.kept hg7 (fun e => q5 R f3 e.symm), fun _ => ⟨(hJ.pb l2).1.keptT hg7 (q5 b f4), (hJ.pb l2).2.keptT hg7 (q5 b f4)⟩, hJ.kp.step hg7 (.inr (.inr (.inr rfl))), fun q => (by cases q), fun _ q => (by cases q), fun _ => ho7, fun q => (by rw [show L1 5 = true from q] at l5; cases l5), hJ.all, hJ.d3, fun _ => l3, fun _ => rfl⟩
    refine Steps.cons rfl (fun L1 v u hJ hL1 hd K1 hK => ?_) ?_
    · have l4 := hd ⟨4, .data⟩ (by simp) rfl
      have l0 := hd ⟨0, .phase⟩ (by simp) rfl
      have l1 := hd ⟨1, .phase⟩ (by simp) rfl
      have ho := hJ.v4 l4
      obtain ⟨g7, c7, e4⟩ := ownsRow_succ ho
      have hb := hJ.pa hL1
      have hc := hb.cell
      have hf := hb.frozen
      clear hd
      go_simp
      refine hK (updV v 4 (.slice (some ⟨g7, 0, none⟩) (L.length + 1) c7)) _ ?_
      have hg := grownBy_setCell' u F (.slice (some ⟨g7, 0, none⟩) (L.length + 1) c7)
      rw [updV_eq e4]
      have l3 := hJ.d4 l4
      have l2 := hJ.d3 l3
      exact ⟨fun q => (by rw [show L1 2 = false from q] at l2; cases l2), hJ.v0, hJ.v1, hJ.v2, fun q => (by cases q), hJ.pr.kept hg (by simpa using fun e => f7 e.symm), fun _ => ⟨(hJ.pb l2).1.keptT hg (by simpa using f5), (hJ.pb l2).2.keptT hg (by simpa using f5)⟩, hJ.kp.step hg (.inr (.inl rfl)), fun q => (by rw [show L1 4 = false from q] at l4; cases l4), fun _ q => (by rw [show L1 4 = false from q] at l4; cases l4), fun _ => ho.keptT hg (fun k hk e => (by cases e; exact (hb.not_row (by decide) ho) hk.symm)), fun _ => (by rw [e4]; exact hb.set _), fun _ => ⟨l0, l1⟩, hJ.d3, hJ.d4, fun _ => l4⟩
    exact Steps.nil
  case refine_3 =>
    intro L1 v u hJ hL1
    have ho := hJ.v4 (hL1 4 (by decide))
    have hb := hJ.pb (hL1 2 (by decide))
    have hl := hJ.fin (hL1 5 (by decide))
    have hkp := hJ.kp
    have hpr := hJ.pr
    have hTab : CrcTab u := fun i hi => (World.cell?_of_block (w := w) (a := ⟨0, i, none⟩) (hkp.block _ (lt_of_cell (h.tab i hi)) f9 f8 (fun e => (by have := hrowlt 0 e; omega)))).trans (h.tab i hi)
    have hR : TkS s (a + 8 + tkN s a) a (L ++ [tkD s a]) (v 4) B F R b u := ⟨hl, by rw [stF_app, List.length_append]; exact ho, hpr, by have := hb.1; push_cast; exact this, hb.2, hTab, ⟨Nat.le_trans f1 hkp.low.size, f2, f3, f4, f5, f6, f7, f8, f9, f10⟩⟩
    clear hJ hL1
    go_wp2
    first | go_end0 | refine bodyPost_ret (results_none rfl _ _ _) rfl ?_
    exact ⟨rfl, ⟨_, hR⟩, hkp⟩
end Go.Proofs.YteflhnmoceppgaaDoor
