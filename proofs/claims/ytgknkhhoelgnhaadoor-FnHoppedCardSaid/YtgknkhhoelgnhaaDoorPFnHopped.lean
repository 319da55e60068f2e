/-
  Proves the statement FnHoppedCardSaid: at every input the law returns true, and each argument reads afterwards as it read before; the five sentinels hold what the program's text lays in them, which the card ties. No condition beyond the statement's own.
-/
import Derived.Test.YtgknkhhoelgnhaaDoorRows
import Derived.Test.YtgknkhhoelgnhaaDoorCards
import Derived.Test.YtgknkhhoelgnhaaDoorTie
import Derived.Test.YtgknkhhoelgnhaaDoorLipO
import Derived.SevenTiedAt
import Derived.ChangeVars
import Derived.JoinedOf
import Derived.RowKitTokens
import Derived.LaidLaws
import Derived.LaidHandle
import Derived.Stop.Joined
import Derived.Stop.LaidTwo
import Derived.WalkKit
import Derived.ProofKit
import Derived.OpenShut
import Derived.ShutString
import Derived.ChangeOld
import Derived.Below
namespace Go.Proofs.YtgknkhhoelgnhaaDoor.fnHoppedDone
open Go.ChangeShapes Go.WideShapes Go.ChangeAt Go.RowKit Go.Stop
open Go.ChangeMaps (open_string shut_string)
set_option linter.unusedVariables false
theorem own : ownKnob Tryd.prog.godebug = none := by kernel_rfl
theorem laidOut : laidOutB Tryd.prog = true := by kernel_rfl
theorem star : "*" ++ "errors.errorString" = "*errors.errorString" := by decide
theorem rowE (u : TypeId) (h : Tryd.prog.typeName? 3 u = some "*errors.errorString") : u = 150 := typeName_ptr_named (nm := "errors.errorString") (by rw [star]; kernel_rfl) (by kernel_rfl) (by decide) u (by rw [star]; exact h)
theorem g1 : Tryd.prog.globalNamed "loop.example/g00675/impl.errIpShort" = some 1 := by kernel_rfl
theorem t1 : (Tryd.prog.globals[1]?).map (·.type) = some 61 := by kernel_rfl
theorem g2 : Tryd.prog.globalNamed "loop.example/g00675/impl.errIpVersion" = some 2 := by kernel_rfl
theorem t2 : (Tryd.prog.globals[2]?).map (·.type) = some 61 := by kernel_rfl
theorem g3 : Tryd.prog.globalNamed "loop.example/g00675/impl.errIpLength" = some 3 := by kernel_rfl
theorem t3 : (Tryd.prog.globals[3]?).map (·.type) = some 61 := by kernel_rfl
theorem g4 : Tryd.prog.globalNamed "loop.example/g00675/impl.errIpSum" = some 4 := by kernel_rfl
theorem t4 : (Tryd.prog.globals[4]?).map (·.type) = some 61 := by kernel_rfl
theorem g5 : Tryd.prog.globalNamed "loop.example/g00675/impl.errIpForm" = some 0 := by kernel_rfl
theorem t5 : (Tryd.prog.globals[0]?).map (·.type) = some 61 := by kernel_rfl
theorem cE : Tryd.prog.cellsOf 152 = 1 := by kernel_rfl
theorem cS : Tryd.prog.cellsOf 9 = 1 := by kernel_rfl
theorem var?_belowC {P : Program} {B g : Nat} {W W' : World} {n : String} {cs : Array Value} (h : Below B W W') (hg : P.globalNamed n = some g) (hgB : g < B) (hv : W.var? P n = some cs) : W'.var? P n = some cs := by
  unfold World.var? at hv ⊢
  simp only [hg, Option.bind_some] at hv ⊢
  rw [h.block g hgB]
  exact hv
set_option maxRecDepth 100000 in
set_option maxHeartbeats 1600000 in
theorem errs_of_laid {W : World} (h0 : laidMetH Tryd.prog Rows.fnHoppedRow.laid W) : ∃ A : Nat → Addr, Errs A W ∧ W.var? Tryd.prog "loop.example/g00675/impl.errIpShort" = some #[.iface 150 (.pointer (some (A 1)))] ∧ W.var? Tryd.prog "loop.example/g00675/impl.errIpVersion" = some #[.iface 150 (.pointer (some (A 2)))] ∧ W.var? Tryd.prog "loop.example/g00675/impl.errIpLength" = some #[.iface 150 (.pointer (some (A 3)))] ∧ W.var? Tryd.prog "loop.example/g00675/impl.errIpSum" = some #[.iface 150 (.pointer (some (A 4)))] ∧ W.var? Tryd.prog "loop.example/g00675/impl.errIpForm" = some #[.iface 150 (.pointer (some (A 5)))] := by
  have h : laidMet Tryd.prog Rows.fnHoppedRow.laid W := h0
  obtain ⟨ps, ⟨g1', t1', cs1, f1, p1, q1, hg1, ht1, hv1, hd1, ⟨g2', t2', cs2, f2, p2, q2, hg2, ht2, hv2, hd2, ⟨g3', t3', cs3, f3, p3, q3, hg3, ht3, hv3, hd3, ⟨g4', t4', cs4, f4, p4, q4, hg4, ht4, hv4, hd4, ⟨g5', t5', cs5, f5, p5, q5, hg5, ht5, hv5, hd5, _, e5⟩, e4⟩, e3⟩, e2⟩, e1⟩, hnd, hrows⟩ := h
  obtain rfl := Option.some.inj (g1.symm.trans hg1)
  obtain rfl := Option.some.inj (t1.symm.trans ht1)
  obtain rfl := Option.some.inj (g2.symm.trans hg2)
  obtain rfl := Option.some.inj (t2.symm.trans ht2)
  obtain rfl := Option.some.inj (g3.symm.trans hg3)
  obtain rfl := Option.some.inj (t3.symm.trans ht3)
  obtain rfl := Option.some.inj (g4.symm.trans hg4)
  obtain rfl := Option.some.inj (t4.symm.trans ht4)
  obtain rfl := Option.some.inj (g5.symm.trans hg5)
  obtain rfl := Option.some.inj (t5.symm.trans ht5)
  subst e5
  subst e4
  subst e3
  subst e2
  subst e1
  obtain ⟨l1⟩ := cs1
  obtain ⟨l2⟩ := cs2
  obtain ⟨l3⟩ := cs3
  obtain ⟨l4⟩ := cs4
  obtain ⟨l5⟩ := cs5
  have ok1 : ∀ u v, l1 = [.iface u v] → Value.okWide Tryd.prog W .any 0 u v := fun u v e => by
    subst e
    exact (hrows 1 0 (by simp [MemPlace.row])).2 u v (by simpa using World.var?_cell hg1 hv1 0)
  have ok2 : ∀ u v, l2 = [.iface u v] → Value.okWide Tryd.prog W .any 0 u v := fun u v e => by
    subst e
    exact (hrows 2 0 (by simp [MemPlace.row])).2 u v (by simpa using World.var?_cell hg2 hv2 0)
  have ok3 : ∀ u v, l3 = [.iface u v] → Value.okWide Tryd.prog W .any 0 u v := fun u v e => by
    subst e
    exact (hrows 3 0 (by simp [MemPlace.row])).2 u v (by simpa using World.var?_cell hg3 hv3 0)
  have ok4 : ∀ u v, l4 = [.iface u v] → Value.okWide Tryd.prog W .any 0 u v := fun u v e => by
    subst e
    exact (hrows 4 0 (by simp [MemPlace.row])).2 u v (by simpa using World.var?_cell hg4 hv4 0)
  have ok5 : ∀ u v, l5 = [.iface u v] → Value.okWide Tryd.prog W .any 0 u v := fun u v e => by
    subst e
    exact (hrows 0 0 (by simp [MemPlace.row])).2 u v (by simpa using World.var?_cell hg5 hv5 0)
  obtain ⟨a1, s1, rfl, hc1, _, _, rfl⟩ := errorString_of_trod Tryd.underlying61 rowE Tryd.underlying150 Tryd.underlying152 rfl rfl Tryd.underlying9 cE cS hd1 ok1
  obtain ⟨a2, s2, rfl, hc2, _, _, rfl⟩ := errorString_of_trod Tryd.underlying61 rowE Tryd.underlying150 Tryd.underlying152 rfl rfl Tryd.underlying9 cE cS hd2 ok2
  obtain ⟨a3, s3, rfl, hc3, _, _, rfl⟩ := errorString_of_trod Tryd.underlying61 rowE Tryd.underlying150 Tryd.underlying152 rfl rfl Tryd.underlying9 cE cS hd3 ok3
  obtain ⟨a4, s4, rfl, hc4, _, _, rfl⟩ := errorString_of_trod Tryd.underlying61 rowE Tryd.underlying150 Tryd.underlying152 rfl rfl Tryd.underlying9 cE cS hd4 ok4
  obtain ⟨a5, s5, rfl, hc5, _, _, rfl⟩ := errorString_of_trod Tryd.underlying61 rowE Tryd.underlying150 Tryd.underlying152 rfl rfl Tryd.underlying9 cE cS hd5 ok5
  obtain ⟨c1, u1, hb1⟩ := (hrows a1.block a1.off (by simp [MemPlace.row])).1
  obtain ⟨c2, u2, hb2⟩ := (hrows a2.block a2.off (by simp [MemPlace.row])).1
  obtain ⟨c3, u3, hb3⟩ := (hrows a3.block a3.off (by simp [MemPlace.row])).1
  obtain ⟨c4, u4, hb4⟩ := (hrows a4.block a4.off (by simp [MemPlace.row])).1
  obtain ⟨c5, u5, hb5⟩ := (hrows a5.block a5.off (by simp [MemPlace.row])).1
  refine ⟨fun k => match k with | 1 => a1 | 2 => a2 | 3 => a3 | 4 => a4 | _ => a5, ⟨fun k h1 h2 => ?_, fun k h1 h2 => ?_, ?_⟩, hv1, hv2, hv3, hv4, hv5⟩
  · have : k = 1 ∨ k = 2 ∨ k = 3 ∨ k = 4 ∨ k = 5 := by omega
    rcases this with rfl | rfl | rfl | rfl | rfl
    · simpa [errG] using World.var?_cell hg1 hv1 0
    · simpa [errG] using World.var?_cell hg2 hv2 0
    · simpa [errG] using World.var?_cell hg3 hv3 0
    · simpa [errG] using World.var?_cell hg4 hv4 0
    · simpa [errG] using World.var?_cell hg5 hv5 0
  · have : k = 1 ∨ k = 2 ∨ k = 3 ∨ k = 4 ∨ k = 5 := by omega
    rcases this with rfl | rfl | rfl | rfl | rfl
    · exact ⟨_, _, hb1⟩
    · exact ⟨_, _, hb2⟩
    · exact ⟨_, _, hb3⟩
    · exact ⟨_, _, hb4⟩
    · exact ⟨_, _, hb5⟩
  · have hne : a1 ≠ a2 ∧ a1 ≠ a3 ∧ a1 ≠ a4 ∧ a1 ≠ a5 ∧ a2 ≠ a3 ∧ a2 ≠ a4 ∧ a2 ≠ a5 ∧ a3 ≠ a4 ∧ a3 ≠ a5 ∧ a4 ≠ a5 := by
      refine ⟨?_, ?_, ?_, ?_, ?_, ?_, ?_, ?_, ?_, ?_⟩
      all_goals
        intro hx
        subst hx
        simp [MemPlace.row] at hnd
    obtain ⟨n12, n13, n14, n15, n23, n24, n25, n34, n35, n45⟩ := hne
    intro i j i1 i2 j1 j2 hij
    have hi : i = 1 ∨ i = 2 ∨ i = 3 ∨ i = 4 ∨ i = 5 := by omega
    have hj : j = 1 ∨ j = 2 ∨ j = 3 ∨ j = 4 ∨ j = 5 := by omega
    rcases hi with rfl | rfl | rfl | rfl | rfl <;> rcases hj with rfl | rfl | rfl | rfl | rfl
    all_goals first | exact absurd rfl hij | assumption | exact Ne.symm (by assumption)
noncomputable def low : Nat := (World.holding Tryd.prog default ⟨#[], #[], []⟩).heap.size
noncomputable def laidWorld (os : Os) : World :=
  let w0 := World.holding Tryd.prog os ⟨#[.cells #[.string ⟨#[116, 111, 111, 32, 102, 101, 119, 32, 98, 121, 116, 101, 115, 32, 102, 111, 114, 32, 97, 32, 100, 97, 116, 97, 103, 114, 97, 109]⟩] 152, .cells #[.string ⟨#[97, 110, 111, 116, 104, 101, 114, 32, 118, 101, 114, 115, 105, 111, 110, 44, 32, 111, 114, 32, 97, 32, 108, 101, 110, 103, 116, 104, 32, 97, 104, 101, 97, 100, 32, 111, 102, 32, 116, 104, 101, 32, 100, 97, 116, 97, 32, 116, 104, 97, 116, 32, 109, 97, 121, 32, 110, 111, 116, 32, 98, 101]⟩] 152, .cells #[.string ⟨#[110, 111, 116, 32, 97, 115, 32, 109, 97, 110, 121, 32, 98, 121, 116, 101, 115, 32, 97, 115, 32, 97, 114, 101, 32, 116, 111, 108, 100]⟩] 152, .cells #[.string ⟨#[97, 110, 111, 116, 104, 101, 114, 32, 115, 117, 109]⟩] 152, .cells #[.string ⟨#[102, 105, 101, 108, 100, 115, 32, 116, 104, 97, 116, 32, 109, 97, 121, 32, 110, 111, 116, 32, 98, 101]⟩] 152], #[], []⟩
  { w0 with heap := (((((w0.heap.modify 1 fun o => match o with | .cells _ t frozen => Obj.cells #[.iface 150 (.pointer (some ⟨low + 0, 0, none⟩))] t frozen | o => o).modify 2 fun o => match o with | .cells _ t frozen => Obj.cells #[.iface 150 (.pointer (some ⟨low + 1, 0, none⟩))] t frozen | o => o).modify 3 fun o => match o with | .cells _ t frozen => Obj.cells #[.iface 150 (.pointer (some ⟨low + 2, 0, none⟩))] t frozen | o => o).modify 4 fun o => match o with | .cells _ t frozen => Obj.cells #[.iface 150 (.pointer (some ⟨low + 3, 0, none⟩))] t frozen | o => o).modify 0 fun o => match o with | .cells _ t frozen => Obj.cells #[.iface 150 (.pointer (some ⟨low + 4, 0, none⟩))] t frozen | o => o) }
theorem laidWorld_met (os : Os) (args : Array Value) : laidMetH Tryd.prog Rows.fnHoppedRow.laid ((laidWorld os).forCall (fun _ _ => 0) ⟨#[], args, []⟩).memory :=
  show laidMet Tryd.prog Rows.fnHoppedRow.laid _ from laidMet_of_run (ps := [.cell 1 0, .cell (low + 0) 0, .cell 2 0, .cell (low + 1) 0, .cell 3 0, .cell (low + 2) 0, .cell 4 0, .cell (low + 3) 0, .cell 0 0, .cell (low + 4) 0]) 8 (by kernel_rfl) (by kernel_rfl) (by kernel_rfl)
set_option maxRecDepth 100000 in
theorem lifted (os : Os) (started : os.Started) (H : Type) (enc : TypeId × Value → H) :
    ReturnsInHanded {} Tryd.checked os 8 .any (fun w args => (Rows.fnHoppedSpec.pre enc Tryd.prog Tryd.f8 [] false w args ∧ laidMetH Tryd.prog Rows.fnHoppedRow.laid w) ∧ sizedMet enc Tryd.prog Tryd.f8 (OpenSpec.ofChange Rows.fnHoppedSpec) false w args)
      (Rows.fnHoppedSpec.post enc Tryd.prog Tryd.f8 false true false false) := by
  refine returnsInHanded_of_change_and (C := Tryd.checked) (X := fun w _ => laidMetH Tryd.prog Rows.fnHoppedRow.laid w) (fun _ _ _ hh h => h.of_heap hh) own started (by kernel_rfl) Tryd.func8
    (ChangeSpec.witness_at (enc := enc) (C := Tryd.checked) (os := os) (X := fun w _ => laidMetH Tryd.prog Rows.fnHoppedRow.laid w) false (laidWorld os) #[.slice none 0 0] 8 rfl (by kernel_rfl) (by kernel_rfl) (by kernel_rfl) (by kernel_rfl) (by kernel_rfl) (laidWorld_met os _)) ?_
  intro W base args ds gs before hval0 hW _ _ hL _
  have hval : ∀ (j : Nat) t v, Tryd.f8.params[j]? = some t → args[j]? = some v → Value.okWide Tryd.prog W .any base t v := hval0
  have hW' := hW
  obtain ⟨p, q, hA0, hV0, rfl, hfz, hnd⟩ := hW
  have hA : DataW.TrodAll enc Tryd.prog W 0 (fun _ => true) true Tryd.f8.params.toList args.toList ds p := hA0
  have hV : DataW.TrodVars enc Tryd.prog W (fun _ => true) Rows.fnHoppedSpec.vars gs q := hV0
  rw [Tryd.params8] at hA hval
  obtain ⟨v0, d0, rfl, rfl, h0⟩ := trodAll_one hA
  obtain ⟨A, hE, hv1, hv2, hv3, hv4, hv5⟩ := errs_of_laid hL
  have RV : ∀ W2 : World, Below W.heap.size W W2 → ∀ sp : Nat → Bool, DataW.TrodVars enc Tryd.prog W2 sp Rows.fnHoppedSpec.vars [tok enc (.iface 150 (.pointer (some (A 5)))), tok enc (.iface 150 (.pointer (some (A 1)))), tok enc (.iface 150 (.pointer (some (A 2)))), tok enc (.iface 150 (.pointer (some (A 3)))), tok enc (.iface 150 (.pointer (some (A 4))))] [.cell 0 0, .cell 1 0, .cell 2 0, .cell 3 0, .cell 4 0] := fun W2 hb sp => by
    have w1 : W2.var? Tryd.prog "loop.example/g00675/impl.errIpShort" = some #[.iface 150 (.pointer (some (A 1)))] := var?_belowC hb g1 (lt_of_cell (World.var?_cell g1 hv1 0)) hv1
    have w2 : W2.var? Tryd.prog "loop.example/g00675/impl.errIpVersion" = some #[.iface 150 (.pointer (some (A 2)))] := var?_belowC hb g2 (lt_of_cell (World.var?_cell g2 hv2 0)) hv2
    have w3 : W2.var? Tryd.prog "loop.example/g00675/impl.errIpLength" = some #[.iface 150 (.pointer (some (A 3)))] := var?_belowC hb g3 (lt_of_cell (World.var?_cell g3 hv3 0)) hv3
    have w4 : W2.var? Tryd.prog "loop.example/g00675/impl.errIpSum" = some #[.iface 150 (.pointer (some (A 4)))] := var?_belowC hb g4 (lt_of_cell (World.var?_cell g4 hv4 0)) hv4
    have w5 : W2.var? Tryd.prog "loop.example/g00675/impl.errIpForm" = some #[.iface 150 (.pointer (some (A 5)))] := var?_belowC hb g5 (lt_of_cell (World.var?_cell g5 hv5 0)) hv5
    exact ⟨0, 61, #[.iface 150 (.pointer (some (A 5)))], 1, [], [.cell 1 0, .cell 2 0, .cell 3 0, .cell 4 0], g5, t5, w5, trod_held (v := .iface 150 (.pointer (some (A 5)))) Tryd.underlying61 trivial 0, ⟨1, 61, #[.iface 150 (.pointer (some (A 1)))], 1, [], [.cell 2 0, .cell 3 0, .cell 4 0], g1, t1, w1, trod_held (v := .iface 150 (.pointer (some (A 1)))) Tryd.underlying61 trivial 0, ⟨2, 61, #[.iface 150 (.pointer (some (A 2)))], 1, [], [.cell 3 0, .cell 4 0], g2, t2, w2, trod_held (v := .iface 150 (.pointer (some (A 2)))) Tryd.underlying61 trivial 0, ⟨3, 61, #[.iface 150 (.pointer (some (A 3)))], 1, [], [.cell 4 0], g3, t3, w3, trod_held (v := .iface 150 (.pointer (some (A 3)))) Tryd.underlying61 trivial 0, ⟨4, 61, #[.iface 150 (.pointer (some (A 4)))], 1, [], [], g4, t4, w4, trod_held (v := .iface 150 (.pointer (some (A 4)))) Tryd.underlying61 trivial 0, rfl, rfl⟩, rfl⟩, rfl⟩, rfl⟩, rfl⟩
  obtain ⟨rfl, rfl⟩ := hV.unique (RV W (Below.refl _ W) _)
  obtain ⟨a0, len0, cap0, rfl⟩ := okWide_slice Tryd.underlying29 (hval 0 29 v0 rfl rfl)
  have k0 := h0
  have lt0 : ∀ x ∈ p, x.block < W.heap.size := by obtain ⟨m, hm⟩ := k0; exact DataW.trod_lt m _ _ _ hm
  obtain ⟨z0, w0⟩ : ∃ zs, IsRow .u8 W a0 len0 cap0 zs := by
    obtain ⟨fuel, hf⟩ := h0
    rcases open_ints Tryd.underlying29 Tryd.underlying5 (by kernel_rfl) hf with ⟨hcs, _⟩ | ⟨x, l, c, zs, hcs, _, hl, hm, hz, _, hcell, hwz⟩
    · simp [Value.cells] at hcs
      obtain ⟨rfl, rfl, rfl⟩ := hcs
      exact ⟨[], .inl ⟨rfl, rfl, rfl, rfl⟩⟩
    · simp [Value.cells] at hcs
      obtain ⟨rfl, rfl, rfl⟩ := hcs
      exact ⟨zs, .inr ⟨_, rfl, hl, hm, by simpa using hz, hcell, hwz⟩⟩
  refine (walk_FnHopped A a0 len0 cap0 z0 W w0 hE).mono fun e W' ⟨he, bel⟩ => ?_
  subst he
  exact ⟨_, rfl, _, _, _, [], _, _, hW', trodAll_mk1 (shut_bool Tryd.underlying4 _), trodAll_mk1 (Below.trod laidOut (by kernel_rfl) (of_decide_eq_true (by kernel_rfl)) k0 bel lt0), RV W' bel _, bel.frame _, fun h => by cases h⟩
theorem over : Rows.FnHoppedSaid :=
  OpenClaim.holds_of_wide 8 Tryd.f8 rfl rfl rfl rfl rfl rfl rfl ⟨rfl, rfl, rfl, rfl, rfl⟩ rfl rfl rfl rfl rfl (by kernel_rfl) Tryd.func8 (by kernel_rfl)
    (of_decide_eq_true (by kernel_rfl)) (by unfold Func.isWrapper; first | (rw [if_pos (by decide +kernel)]; kernel_rfl) | (rw [if_neg (by decide +kernel)]; exact ⟨rfl, rfl⟩))
    (fun os started H enc _ => lifted os started H enc)
end Go.Proofs.YtgknkhhoelgnhaaDoor.fnHoppedDone
namespace Go.Proofs.YtgknkhhoelgnhaaDoor
open Go
theorem FnHopped_holds : Rows.FnHoppedCardSaid :=
  Claim7.holds_tied_plain_at .later [] [.sentinel, .sentinel, .sentinel, .sentinel, .sentinel] true (true, "9a8fd1bce9834d8be2180b7c4d3f959e457b9e26c8c687a0c7a7d07def87a3e4") true
    fnHoppedDone.over (fun _ h => by cases h) (by kernel_rfl) (fun _ h => by cases h) fnHopped_row_tie rfl ⟨rfl, rfl⟩ (by kernel_rfl) rfl
    (fun f fn hf hfn => by
      obtain rfl : f = 8 := Option.some.inj ((show Tryd.prog.funcNamed "loop.example/g00675/laws.FnHopped" = some 8 by kernel_rfl).symm.trans hf) |>.symm
      obtain rfl : fn = Tryd.f8 := (Option.some.inj (Tryd.func8.symm.trans hfn)).symm
      exact ⟨by kernel_rfl, fun j t ht => by
        rw [Tryd.params8] at ht
        have hm : t ∈ [29] := by simpa using Array.mem_of_getElem? ht
        have hall : ([29].all fun u => !Tryd.prog.wantsStandIn u) = true := by kernel_rfl
        exact (show Tryd.prog.wantsStandIn t = false by simpa using List.all_eq_true.1 hall t hm)⟩)
    (by kernel_rfl)
#print axioms FnHopped_holds
end Go.Proofs.YtgknkhhoelgnhaaDoor
