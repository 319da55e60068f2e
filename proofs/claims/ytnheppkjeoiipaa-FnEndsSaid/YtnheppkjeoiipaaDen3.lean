/-
  The law on ends: what is drawn, the walk.
-/
import Derived.Test.YtnheppkjeoiipaaDen2
import Derived.Test.YtnheppkjeoiipaaDgn2
import Derived.Deep.RegionHeld3
namespace Go.Proofs.Ytnheppkjeoiipaa
open Go.RowKit Go.PlainAid
set_option maxRecDepth 100000 in
set_option maxHeartbeats 3200000 in
theorem l_sameEnd (e : EdV) (T U : Option Addr) (c d : Nat) (w : World) (h : CellsAt w T (opF e.opts)) (k : CellsAt w U (opF e.opts)) (hl : e.opts.length ≤ 1099511627776) :
    Calls Try.prog 23 #[.agg (edL e T c), .agg (edL e U d)] w fun x w' => x = .returned (.bool true) ∧ Below w.heap.size w w' := by
  have CE : Hid (∀ u : World, Below w.heap.size w u → Calls Try.prog 14 #[.slice T e.opts.length c, .slice U e.opts.length d] u fun x w' => x = .returned (.bool true) ∧ Below u.heap.size u w') := fun u hb => l_sameOpts T U c d e.opts u (h.below hb) (k.below hb) hl
  have hb0 : ∀ cs ds, Below w.heap.size w ((w.alloc (.cells cs 39)).alloc (.cells ds 39)) := fun cs ds => ((Below.refl _ w).alloc (Nat.le_refl _) _).alloc (by simp) _
  clear h k hl
  obtain ⟨id, knd, loc, rem, net, df, sum, opts⟩ := e
  simp only [edL] at *
  have k1 : ∀ z : Int, (z == z) = true := fun z => by simp
  have k2 : ∀ z : Bool, (z == z) = true := fun z => by simp
  go_enter Try.func23, Try.ntmps23
  go_wp2_with fail
  go_at_call 14
  refine (CE.out _ (hb0 _ _)).mono ?_
  rintro x w1 ⟨rfl, hb⟩
  go_wp2
  go_ret
  exact ⟨rfl, (hb0 _ _).trans (hb.mono (hb0 _ _).size)⟩
set_option maxRecDepth 100000 in
set_option maxHeartbeats 3200000 in
theorem d_MirrorOf (B : Nat) (C : Option Addr) (len cap : Nat) (w : World) (h : Code w B C len) :
    Calls Try.prog 22 #[.slice C len cap] w fun x w' => EndD w w' x := by
  have hb0 : Below w.heap.size w (w.alloc (.cells edZ 39)) := (Below.refl _ w).alloc (Nat.le_refl _) _
  have hC := h.below (hb0.mono h.2.1)
  have hZ : Bx (w.alloc (.cells edZ 39)) w.heap.size edZ.toList := Bx.new w _ _
  have hFZ : Fx (w.alloc (.cells edZ 39)) w.heap.size := Fx.new w _ _
  have hlt : w.heap.size < (w.alloc (.cells edZ 39)).heap.size := by simp
  clear h
  go_enter Try.func22, Try.ntmps22
  go_wp2_with fail
  generalize w.alloc _ = w0 at *
  refine (d_EndOk B C len cap _ hC).mono ?_
  rintro x w1 ⟨⟨id, knd, loc, rem, net, df, sum, opts⟩, T, c, rfl, hv, hl, ht, hb⟩
  simp only at hv hl ht
  simp only [edL]
  replace hZ := hZ.below hb
  replace hFZ := hFZ.below' hb
  have hB := hb0.trans (hb.mono hb0.size)
  clear hb hb0
  have z0 := hZ.2 0 _ rfl; have z1 := hZ.2 1 _ rfl; have z2 := hZ.2 2 _ rfl; have z3 := hZ.2 3 _ rfl; have z4 := hZ.2 4 _ rfl; have z5 := hZ.2 5 _ rfl; have z6 := hZ.2 6 _ rfl; have z7 := hZ.2 7 _ rfl
  have f0 := hFZ.2
  go_wp2
  refine bodyPost_ret (v := .agg #[.int .i64 id, .int .i64 knd, .int .i64 loc, .int .i64 rem, .int .i64 net, .bool df, .bool sum, .slice T opts.length c]) ?_ rfl ⟨⟨id, knd, loc, rem, net, df, sum, opts⟩, T, c, rfl, ?_, hl, ht, ?_⟩
  · simp [results, Try.results22, go_sem, z0, z1, z2, z3, z4, z5, z6, z7]
  · refine ownV.mono (B := w0.heap.size) ?_ (by omega)
    iterate 8 (refine ownV.lowset ?_ (by omega) _)
    exact hv
  · go_grown
end Go.Proofs.Ytnheppkjeoiipaa
