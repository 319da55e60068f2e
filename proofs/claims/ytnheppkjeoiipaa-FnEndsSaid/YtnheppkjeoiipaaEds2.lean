/-
  The exact law on ends: sizes, copies, the walk.
-/
import Derived.Test.YtnheppkjeoiipaaEds1
import Derived.Deep.RegionWith
namespace Go.Proofs.Ytnheppkjeoiipaa
open Go.RowKit Go.PlainAid
theorem bcellE {W w1 : World} (hb : Below W.heap.size W w1) : (∀ b o, b < W.heap.size → w1.cell? ⟨b, o, none⟩ = W.cell? ⟨b, o, none⟩) ∧ (∀ b o, b < W.heap.size → w1.frozen? ⟨b, o, none⟩ = W.frozen? ⟨b, o, none⟩) :=
  ⟨fun b o h => hb.cell (p := ⟨b, o, none⟩) h, fun b o h => hb.frozen (p := ⟨b, o, none⟩) h⟩
theorem CellsAt.drew {w : World} {T : Option Addr} {l : List Value} (h : CellsAt w T l) : CellsAt w.drew T l := h.below (Below.refl _ w).drew
theorem ownV.aside {w : World} {B g n cap : Nat} {E : TypeId} {k : Nat} {l : List Value} (h : ownV w B E k (.slice (some ⟨g, 0, none⟩) n cap) n l) {b j : Nat} (hb : b ≠ g) (u : Value) : ownV (w.setCell ⟨b, j, none⟩ u) B E k (.slice (some ⟨g, 0, none⟩) n cap) n l :=
  ownsRow_setCell_other h (by simp [Value.ownBlock]; omega) u
set_option maxRecDepth 100000 in
theorem l_szEnd_yes (e : EdV) (T : Option Addr) (c : Nat) (w : World) (h : CellsAt w T (opF e.opts)) (hn : e.opts.length + opTot e.opts ≤ 1048576) :
    Calls Try.prog 15 #[.agg (edL e T c), .int .i64 1048576] w fun x w' => x = .returned (.int .i64 (1048576 - (e.opts.length : Int) - (opTot e.opts : Int))) ∧ Below w.heap.size w w' := by
  have hb0 : ∀ cs, Below w.heap.size w (w.alloc (.cells cs 36)) := fun cs => (Below.refl _ w).alloc (Nat.le_refl _) _
  have CZ : Hid (∀ u : World, Below w.heap.size w u → Calls Try.prog 43 #[.slice T e.opts.length c, .int .i64 1048576] u fun x w' => x = .returned (.int .i64 (1048576 - (e.opts.length : Int) - (opTot e.opts : Int))) ∧ Below u.heap.size u w') := fun u hb => l_szOptS_yes T c e.opts u (h.below hb) hn
  obtain ⟨lf, hlf, hlf'⟩ : ∃ lf : Int, lf ≤ 1048576 - (e.opts.length : Int) - (opTot e.opts : Int) ∧ 1048576 - (e.opts.length : Int) - (opTot e.opts : Int) ≤ lf := ⟨_, Int.le_refl _, Int.le_refl _⟩
  have e0 : 1048576 - (e.opts.length : Int) - (opTot e.opts : Int) = lf := by omega
  rw [e0] at CZ ⊢
  have hlf0 : 0 ≤ lf := by omega
  clear h hn hlf hlf' e0
  obtain ⟨id, knd, loc, rem, net, df, sum, opts⟩ := e
  simp only [edL] at *
  go_enter Try.func15, Try.ntmps15
  go_wp2_with fail
  go_at_call 43
  refine (CZ.out _ (hb0 _)).mono ?_
  rintro x w1 ⟨rfl, hb⟩
  go_wp2
  go_ret
  exact ⟨rfl, (hb0 _).trans (hb.mono (hb0 _).size)⟩
set_option maxRecDepth 100000 in
theorem l_szEnd_no (e : EdV) (T : Option Addr) (c : Nat) (w : World) (h : CellsAt w T (opF e.opts)) (hm : e.opts.length ≤ 9223372036854775807) (hs : opLong e.opts) (hn : 1048576 < e.opts.length + opTot e.opts) :
    Calls Try.prog 15 #[.agg (edL e T c), .int .i64 1048576] w fun x w' => x = .returned (.int .i64 (-1)) ∧ Below w.heap.size w w' := by
  have hb0 : ∀ cs, Below w.heap.size w (w.alloc (.cells cs 36)) := fun cs => (Below.refl _ w).alloc (Nat.le_refl _) _
  have CZ : Hid (∀ u : World, Below w.heap.size w u → Calls Try.prog 43 #[.slice T e.opts.length c, .int .i64 1048576] u fun x w' => x = .returned (.int .i64 (-1)) ∧ Below u.heap.size u w') := fun u hb => l_szOptS_no T c e.opts u (h.below hb) hm hs hn
  clear h hn hm hs
  obtain ⟨id, knd, loc, rem, net, df, sum, opts⟩ := e
  simp only [edL] at *
  go_enter Try.func15, Try.ntmps15
  go_wp2_with fail
  go_at_call 43
  refine (CZ.out _ (hb0 _)).mono ?_
  rintro x w1 ⟨rfl, hb⟩
  go_wp2
  go_ret
  exact ⟨rfl, (hb0 _).trans (hb.mono (hb0 _).size)⟩
set_option maxRecDepth 100000 in
set_option maxHeartbeats 1600000 in
theorem l_toEnd (e : EdV) (T : Option Addr) (c : Nat) (w : World) (h : CellsAt w T (opF e.opts)) (hl : e.opts.length ≤ 1048576) :
    Calls Try.prog 17 #[.agg (edL e T c)] w fun x w' => ∃ g : Nat, x = .returned (.agg (edL e (some ⟨g, 0, none⟩) e.opts.length)) ∧ ownV w' w.heap.size 33 3 (.slice (some ⟨g, 0, none⟩) e.opts.length e.opts.length) e.opts.length (opF e.opts) ∧ Below w.heap.size w w' := by
  have CT : Hid (∀ u : World, Below w.heap.size w u → Calls Try.prog 44 #[.slice T e.opts.length c] u fun x w' => ∃ g, x = .returned (.slice (some ⟨g, 0, none⟩) e.opts.length e.opts.length) ∧ ownV w' u.heap.size 33 3 (.slice (some ⟨g, 0, none⟩) e.opts.length e.opts.length) e.opts.length (opF e.opts) ∧ Below u.heap.size u w') := fun u hb => l_toOptS T c e.opts u (h.below hb) hl
  clear h hl
  obtain ⟨id, knd, loc, rem, net, df, sum, opts⟩ := e
  simp only [edL] at *
  generalize opF opts = cs at *
  go_enter Try.func17, Try.ntmps17
  go_wp2_with fail
  go_at_call 44
  refine (CT.out _ (by go_grown)).mono ?_
  rintro x w1 ⟨g, rfl, hown, hb⟩
  have hg' : w.heap.size + 3 ≤ g := by
    rcases hown.shape with ⟨hv, _⟩ | ⟨g2, cap, hv, hB, _⟩
    · simp at hv
    · simp at hv hB; omega
  have hB : Below w.heap.size w w1 := by
    refine Below.trans ?_ (hb.mono ?_)
    · go_grown
    · simp; omega
  have hO : ownV w1 w.heap.size 33 3 (.slice (some ⟨g, 0, none⟩) opts.length opts.length) opts.length cs := hown.mono (by simp; omega)
  obtain ⟨hc, hf⟩ := bcellE hb
  clear hb hown
  go_wp2
  refine bodyPost_ret (v := .agg #[.int .i64 id, .int .i64 knd, .int .i64 loc, .int .i64 rem, .int .i64 net, .bool df, .bool sum, .slice (some ⟨g, 0, none⟩) opts.length opts.length]) ?_ rfl ⟨g, rfl, ?_, ?_⟩
  · simp [results, Try.results17, go_sem, hc]
  · repeat (refine ownV.aside ?_ (by omega) _)
    exact hO
  · go_grown
set_option maxRecDepth 100000 in
set_option maxHeartbeats 1600000 in
theorem l_eqEnd (e : EdV) (T U : Option Addr) (c d : Nat) (w : World) (h : CellsAt w T (opF e.opts)) (k : CellsAt w U (opF e.opts)) (hl : e.opts.length ≤ 1099511627776) :
    Calls Try.prog 19 #[.agg (edL e T c), .agg (edL e U d)] w fun x w' => x = .returned (.bool true) ∧ Below w.heap.size w w' := by
  have CE : Hid (∀ u : World, Below w.heap.size w u → Calls Try.prog 46 #[.slice T e.opts.length c, .slice U e.opts.length d] u fun x w' => x = .returned (.bool true) ∧ Below u.heap.size u w') := fun u hb => l_eqOptS T U c d e.opts u (h.below hb) (k.below hb) hl
  have hb0 : ∀ cs ds, Below w.heap.size w ((w.alloc (.cells cs 39)).alloc (.cells ds 39)) := fun cs ds => ((Below.refl _ w).alloc (Nat.le_refl _) _).alloc (by simp) _
  clear h k hl
  obtain ⟨id, knd, loc, rem, net, df, sum, opts⟩ := e
  simp only [edL] at *
  go_enter Try.func19, Try.ntmps19
  go_wp2_with fail
  go_at_call 46
  refine (CE.out _ (hb0 _ _)).mono ?_
  rintro x w1 ⟨rfl, hb⟩
  go_wp2
  go_ret
  exact ⟨rfl, (hb0 _ _).trans (hb.mono (hb0 _ _).size)⟩
end Go.Proofs.Ytnheppkjeoiipaa
