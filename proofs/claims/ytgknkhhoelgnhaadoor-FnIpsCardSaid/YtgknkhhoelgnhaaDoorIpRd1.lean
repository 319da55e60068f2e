/-
  The program's reader of datagrams: what is wrong with the head; its sentinels.
-/
import Derived.Test.YtgknkhhoelgnhaaDoorIpRead1
import Derived.Test.YtgknkhhoelgnhaaDoorErrIs
import Derived.Test.YtgknkhhoelgnhaaDoorClone
import Derived.Test.YtgknkhhoelgnhaaDoorRinv
import Derived.Stop.IfaceNil
namespace Go.Proofs.YtgknkhhoelgnhaaDoor
open Go.RowKit Go.PlainAid
/-- the variable of a code -/
def errG : Nat → Nat
  | 1 => 1
  | 2 => 2
  | 3 => 3
  | 4 => 4
  | _ => 0
/-- the five sentinels lie there -/
structure Errs (A : Nat → Addr) (w : World) : Prop where
  cell : ∀ k, 1 ≤ k → k ≤ 5 → w.cell? ⟨errG k, 0, none⟩ = some (.iface 150 (.pointer (some (A k))))
  heap : ∀ k, 1 ≤ k → k ≤ 5 → ∃ c t, w.heap[(A k).block]? = some (.cells c t (0, 0))
  ne : ∀ i j, 1 ≤ i → i ≤ 5 → 1 ≤ j → j ≤ 5 → i ≠ j → A i ≠ A j
theorem Errs.below {A : Nat → Addr} {w w' : World} (h : Errs A w) (hb : Below w.heap.size w w') : Errs A w' := by
  refine ⟨fun k h1 h2 => ?_, fun k h1 h2 => ?_, h.ne⟩
  · have := h.cell k h1 h2
    exact (hb.cell (p := ⟨errG k, 0, none⟩) (lt_of_cell this)).trans this
  · obtain ⟨c, t, e⟩ := h.heap k h1 h2
    exact ⟨c, t, (hb.block _ (lt_of_block e)).trans e⟩
def errV (A : Nat → Addr) : Nat → Value
  | 0 => .nilIface
  | k + 1 => .iface 150 (.pointer (some (A (k + 1))))
def mhCode (s : ByteArray) : Nat :=
  if s.size < 20 then 1 else if bt s 0 < 69 ∨ 79 < bt s 0 then 2 else if s.size < hdr s ∨ fld s 2 2 ≠ s.size then 3 else if sumOf (bl (s.extract 0 (hdr s))) ≠ 0 then 4 else 0
def mhSize (s : ByteArray) : Int := if mhCode s = 0 then hdr s else 0
theorem mhCode_le (s : ByteArray) : mhCode s ≤ 4 := by unfold mhCode; repeat' split
                                                       all_goals omega
set_option maxRecDepth 100000 in
set_option maxHeartbeats 1600000 in
theorem i_ipCode0 (w : World) :
    Calls Tryd.prog 59 #[.nilIface] w fun e w' => e = .returned (.int .i64 0) ∧ w' = w := by
  go_enter Tryd.func59, Tryd.ntmps59
  go_wp2
  go_ret
  exact ⟨rfl, rfl⟩
set_option maxRecDepth 100000 in
set_option maxHeartbeats 1600000 in
theorem i_ipCode1 (A : Nat → Addr) (w : World) (hE : Errs A w) :
    Calls Tryd.prog 59 #[errV A 1] w fun e w' => e = .returned (.int .i64 1) ∧ w' = w := by
  have c1 := hE.cell 1 (by decide) (by decide)
  have CO : Hid (∀ j, 1 ≤ j → j ≤ 5 → j ≠ 1 → Calls Tryd.prog 93 #[.iface 150 (.pointer (some (A 1))), .iface 150 (.pointer (some (A j)))] w fun e w' => e = .returned (.bool false) ∧ w' = w) := fun j h1 h2 hne => by
    obtain ⟨ca, ta, ea⟩ := hE.heap 1 (by decide) (by decide)
    obtain ⟨cb, tb, eb⟩ := hE.heap j h1 h2
    exact is_other _ _ _ _ _ _ w (hE.ne 1 j (by decide) (by decide) h1 h2 (Ne.symm hne)) ea eb
  have CY : Hid (Calls Tryd.prog 93 #[.iface 150 (.pointer (some (A 1))), .iface 150 (.pointer (some (A 1)))] w fun e w' => e = .returned (.bool true) ∧ w' = w) := is_same _ w
  simp only [errG] at c1
  simp only [errV]
  clear hE
  have hif : Tryd.prog.isIface 61 = true := by kernel_rfl
  go_enter Tryd.func59, Tryd.ntmps59
  go_wp2_with fail
  go_at_call 93
  refine CY.out.mono ?_
  rintro e w1 ⟨rfl, hq⟩
  rw [hq]
  clear hq w1
  go_wp2
  go_ret
  exact ⟨rfl, rfl⟩
set_option maxRecDepth 100000 in
set_option maxHeartbeats 1600000 in
theorem i_ipCode2 (A : Nat → Addr) (w : World) (hE : Errs A w) :
    Calls Tryd.prog 59 #[errV A 2] w fun e w' => e = .returned (.int .i64 2) ∧ w' = w := by
  have c1 := hE.cell 1 (by decide) (by decide)
  have c2 := hE.cell 2 (by decide) (by decide)
  have CO : Hid (∀ j, 1 ≤ j → j ≤ 5 → j ≠ 2 → Calls Tryd.prog 93 #[.iface 150 (.pointer (some (A 2))), .iface 150 (.pointer (some (A j)))] w fun e w' => e = .returned (.bool false) ∧ w' = w) := fun j h1 h2 hne => by
    obtain ⟨ca, ta, ea⟩ := hE.heap 2 (by decide) (by decide)
    obtain ⟨cb, tb, eb⟩ := hE.heap j h1 h2
    exact is_other _ _ _ _ _ _ w (hE.ne 2 j (by decide) (by decide) h1 h2 (Ne.symm hne)) ea eb
  have CY : Hid (Calls Tryd.prog 93 #[.iface 150 (.pointer (some (A 2))), .iface 150 (.pointer (some (A 2)))] w fun e w' => e = .returned (.bool true) ∧ w' = w) := is_same _ w
  simp only [errG] at c1 c2
  simp only [errV]
  clear hE
  have hif : Tryd.prog.isIface 61 = true := by kernel_rfl
  go_enter Tryd.func59, Tryd.ntmps59
  go_wp2_with fail
  go_at_call 93
  refine (CO.out 1 (by decide) (by decide) (by decide)).mono ?_
  rintro e w1 ⟨rfl, hq⟩
  rw [hq]
  clear hq w1
  go_wp2_with fail
  go_at_call 93
  refine CY.out.mono ?_
  rintro e w1 ⟨rfl, hq⟩
  rw [hq]
  clear hq w1
  go_wp2
  go_ret
  exact ⟨rfl, rfl⟩
set_option maxRecDepth 100000 in
set_option maxHeartbeats 1600000 in
theorem i_ipCode3 (A : Nat → Addr) (w : World) (hE : Errs A w) :
    Calls Tryd.prog 59 #[errV A 3] w fun e w' => e = .returned (.int .i64 3) ∧ w' = w := by
  have c1 := hE.cell 1 (by decide) (by decide)
  have c2 := hE.cell 2 (by decide) (by decide)
  have c3 := hE.cell 3 (by decide) (by decide)
  have CO : Hid (∀ j, 1 ≤ j → j ≤ 5 → j ≠ 3 → Calls Tryd.prog 93 #[.iface 150 (.pointer (some (A 3))), .iface 150 (.pointer (some (A j)))] w fun e w' => e = .returned (.bool false) ∧ w' = w) := fun j h1 h2 hne => by
    obtain ⟨ca, ta, ea⟩ := hE.heap 3 (by decide) (by decide)
    obtain ⟨cb, tb, eb⟩ := hE.heap j h1 h2
    exact is_other _ _ _ _ _ _ w (hE.ne 3 j (by decide) (by decide) h1 h2 (Ne.symm hne)) ea eb
  have CY : Hid (Calls Tryd.prog 93 #[.iface 150 (.pointer (some (A 3))), .iface 150 (.pointer (some (A 3)))] w fun e w' => e = .returned (.bool true) ∧ w' = w) := is_same _ w
  simp only [errG] at c1 c2 c3
  simp only [errV]
  clear hE
  have hif : Tryd.prog.isIface 61 = true := by kernel_rfl
  go_enter Tryd.func59, Tryd.ntmps59
  go_wp2_with fail
  go_at_call 93
  refine (CO.out 1 (by decide) (by decide) (by decide)).mono ?_
  rintro e w1 ⟨rfl, hq⟩
  rw [hq]
  clear hq w1
  go_wp2_with fail
  go_at_call 93
  refine (CO.out 2 (by decide) (by decide) (by decide)).mono ?_
  rintro e w1 ⟨rfl, hq⟩
  rw [hq]
  clear hq w1
  go_wp2_with fail
  go_at_call 93
  refine CY.out.mono ?_
  rintro e w1 ⟨rfl, hq⟩
  rw [hq]
  clear hq w1
  go_wp2
  go_ret
  exact ⟨rfl, rfl⟩
set_option maxRecDepth 100000 in
set_option maxHeartbeats 1600000 in
theorem i_ipCode4 (A : Nat → Addr) (w : World) (hE : Errs A w) :
    Calls Tryd.prog 59 #[errV A 4] w fun e w' => e = .returned (.int .i64 4) ∧ w' = w := by
  have c1 := hE.cell 1 (by decide) (by decide)
  have c2 := hE.cell 2 (by decide) (by decide)
  have c3 := hE.cell 3 (by decide) (by decide)
  have c4 := hE.cell 4 (by decide) (by decide)
  have CO : Hid (∀ j, 1 ≤ j → j ≤ 5 → j ≠ 4 → Calls Tryd.prog 93 #[.iface 150 (.pointer (some (A 4))), .iface 150 (.pointer (some (A j)))] w fun e w' => e = .returned (.bool false) ∧ w' = w) := fun j h1 h2 hne => by
    obtain ⟨ca, ta, ea⟩ := hE.heap 4 (by decide) (by decide)
    obtain ⟨cb, tb, eb⟩ := hE.heap j h1 h2
    exact is_other _ _ _ _ _ _ w (hE.ne 4 j (by decide) (by decide) h1 h2 (Ne.symm hne)) ea eb
  have CY : Hid (Calls Tryd.prog 93 #[.iface 150 (.pointer (some (A 4))), .iface 150 (.pointer (some (A 4)))] w fun e w' => e = .returned (.bool true) ∧ w' = w) := is_same _ w
  simp only [errG] at c1 c2 c3 c4
  simp only [errV]
  clear hE
  have hif : Tryd.prog.isIface 61 = true := by kernel_rfl
  go_enter Tryd.func59, Tryd.ntmps59
  go_wp2_with fail
  go_at_call 93
  refine (CO.out 1 (by decide) (by decide) (by decide)).mono ?_
  rintro e w1 ⟨rfl, hq⟩
  rw [hq]
  clear hq w1
  go_wp2_with fail
  go_at_call 93
  refine (CO.out 2 (by decide) (by decide) (by decide)).mono ?_
  rintro e w1 ⟨rfl, hq⟩
  rw [hq]
  clear hq w1
  go_wp2_with fail
  go_at_call 93
  refine (CO.out 3 (by decide) (by decide) (by decide)).mono ?_
  rintro e w1 ⟨rfl, hq⟩
  rw [hq]
  clear hq w1
  go_wp2_with fail
  go_at_call 93
  refine CY.out.mono ?_
  rintro e w1 ⟨rfl, hq⟩
  rw [hq]
  clear hq w1
  go_wp2
  go_ret
  exact ⟨rfl, rfl⟩
set_option maxRecDepth 100000 in
set_option maxHeartbeats 1600000 in
theorem i_ipCode5 (A : Nat → Addr) (w : World) (hE : Errs A w) :
    Calls Tryd.prog 59 #[errV A 5] w fun e w' => e = .returned (.int .i64 5) ∧ w' = w := by
  have c1 := hE.cell 1 (by decide) (by decide)
  have c2 := hE.cell 2 (by decide) (by decide)
  have c3 := hE.cell 3 (by decide) (by decide)
  have c4 := hE.cell 4 (by decide) (by decide)
  have CO : Hid (∀ j, 1 ≤ j → j ≤ 5 → j ≠ 5 → Calls Tryd.prog 93 #[.iface 150 (.pointer (some (A 5))), .iface 150 (.pointer (some (A j)))] w fun e w' => e = .returned (.bool false) ∧ w' = w) := fun j h1 h2 hne => by
    obtain ⟨ca, ta, ea⟩ := hE.heap 5 (by decide) (by decide)
    obtain ⟨cb, tb, eb⟩ := hE.heap j h1 h2
    exact is_other _ _ _ _ _ _ w (hE.ne 5 j (by decide) (by decide) h1 h2 (Ne.symm hne)) ea eb
  have CY : Hid (Calls Tryd.prog 93 #[.iface 150 (.pointer (some (A 5))), .iface 150 (.pointer (some (A 5)))] w fun e w' => e = .returned (.bool true) ∧ w' = w) := is_same _ w
  simp only [errG] at c1 c2 c3 c4
  simp only [errV]
  clear hE
  have hif : Tryd.prog.isIface 61 = true := by kernel_rfl
  go_enter Tryd.func59, Tryd.ntmps59
  go_wp2_with fail
  go_at_call 93
  refine (CO.out 1 (by decide) (by decide) (by decide)).mono ?_
  rintro e w1 ⟨rfl, hq⟩
  rw [hq]
  clear hq w1
  go_wp2_with fail
  go_at_call 93
  refine (CO.out 2 (by decide) (by decide) (by decide)).mono ?_
  rintro e w1 ⟨rfl, hq⟩
  rw [hq]
  clear hq w1
  go_wp2_with fail
  go_at_call 93
  refine (CO.out 3 (by decide) (by decide) (by decide)).mono ?_
  rintro e w1 ⟨rfl, hq⟩
  rw [hq]
  clear hq w1
  go_wp2_with fail
  go_at_call 93
  refine (CO.out 4 (by decide) (by decide) (by decide)).mono ?_
  rintro e w1 ⟨rfl, hq⟩
  rw [hq]
  clear hq w1
  go_wp2
  go_ret
  exact ⟨rfl, rfl⟩
theorem i_ipCode (A : Nat → Addr) (k : Nat) (hk : k ≤ 5) (w : World) (hE : Errs A w) :
    Calls Tryd.prog 59 #[errV A k] w fun e w' => e = .returned (.int .i64 (k : Int)) ∧ w' = w := by
  have h : k = 0 ∨ k = 1 ∨ k = 2 ∨ k = 3 ∨ k = 4 ∨ k = 5 := by omega
  rcases h with rfl | rfl | rfl | rfl | rfl | rfl
  · exact i_ipCode0 w
  · exact i_ipCode1 A w hE
  · exact i_ipCode2 A w hE
  · exact i_ipCode3 A w hE
  · exact i_ipCode4 A w hE
  · exact i_ipCode5 A w hE
end Go.Proofs.YtgknkhhoelgnhaaDoor
