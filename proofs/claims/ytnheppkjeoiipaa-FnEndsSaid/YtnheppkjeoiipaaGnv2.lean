/-
  The bytes of a Geneve, by the program.
-/
import Derived.Test.YtnheppkjeoiipaaGnv1
import Derived.Test.YtnheppkjeoiipaaTun1
namespace Go.Proofs.Ytnheppkjeoiipaa
open Go.RowKit Go.PlainAid
def opsOk (l : List OpV) : Bool := l.all opOk
def opsB (l : List OpV) : Bool := opsOk l && decide (opSum l ≤ 252)
def opCr (a : OpV) : Bool := decide (128 ≤ a.typ)
def opsCr (l : List OpV) : Bool := l.any opCr
def opText (a : OpV) : List UInt8 := be 2 a.cls ++ be 1 a.typ ++ be 1 ((a.data.size : Int) / 4) ++ bl a.data
def opsText (l : List OpV) : List UInt8 := l.flatMap opText
theorem opText_len (a : OpV) : (opText a).length = 4 + a.data.size := by simp only [opText, List.length_append, be_length, bl_length]
theorem opsText_len (l : List OpV) : (opsText l).length = opSum l := by
  induction l with
  | nil => rfl
  | cons a l ih =>
    have e : opsText (a :: l) = opText a ++ opsText l := rfl
    have e1 : opSum (a :: l) = (4 + a.data.size) + opSum l := rfl
    rw [e, e1, List.length_append, ih, opText_len]
theorem opsText_take (l : List OpV) (j : Nat) (h : j < l.length) : opsText (l.take (j + 1)) = opsText (l.take j) ++ opText (opA l j) := by
  unfold opsText; rw [List.take_succ_eq_append_getElem h, opA_eq l j h, List.flatMap_append]; simp
def gvFl (l : List OpV) : Int := if opsCr l then 64 else 0
def gvH (net : Int) (l : List OpV) : List UInt8 := be 1 ((opSum l : Int) / 4) ++ be 1 (gvFl l) ++ be 2 25944 ++ be 3 net ++ be 1 0
def gvText (net : Int) (l : List OpV) (data : ByteArray) : List UInt8 := if netB net && opsB l && carB data then gvH net l ++ opsText l ++ bl data else []
theorem opsOk_at {l : List OpV} (h : opsOk l = true) (j : Nat) (hj : j < l.length) : opOk (opA l j) = true := by
  rw [opA_eq l j hj]; unfold opsOk at h; rw [List.all_eq_true] at h; exact h _ (List.getElem_mem hj)
theorem opsOk_no {l : List OpV} (j : Nat) (hj : j < l.length) (h : opOk (opA l j) = false) : opsOk l = false := by
  rw [opA_eq l j hj] at h
  cases hq : opsOk l
  · rfl
  · have := opsOk_at hq j hj
    rw [opA_eq l j hj] at this; rw [h] at this; cases this
theorem opsOk_all {l : List OpV} (h : ∀ i, i < l.length → opOk (opA l i) = true) : opsOk l = true := by
  unfold opsOk; rw [List.all_eq_true]
  intro a ha
  obtain ⟨i, hi, rfl⟩ := List.getElem_of_mem ha
  rw [← opA_eq l i hi]; exact h i hi
theorem opsCr_yes {l : List OpV} (j : Nat) (hj : j < l.length) (h : opCr (opA l j) = true) : opsCr l = true := by
  rw [opA_eq l j hj] at h
  unfold opsCr; rw [List.any_eq_true]; exact ⟨_, List.getElem_mem hj, h⟩
theorem opsCr_no {l : List OpV} (h : ∀ i, i < l.length → opCr (opA l i) = false) : opsCr l = false := by
  cases hq : opsCr l
  · rfl
  · unfold opsCr at hq; rw [List.any_eq_true] at hq
    obtain ⟨a, ha, h2⟩ := hq
    obtain ⟨i, hi, rfl⟩ := List.getElem_of_mem ha
    have := h i hi
    rw [opA_eq l i hi, h2] at this; cases this
structure OpFacts (a : OpV) : Prop where
  c0 : 0 ≤ a.cls
  c1 : a.cls ≤ 65535
  t0 : 0 ≤ a.typ
  t1 : a.typ ≤ 255
  d1 : a.data.size ≤ 124
  d4 : a.data.size % 4 = 0
theorem opOk_facts {a : OpV} (h : opOk a = true) : OpFacts a := by
  unfold opOk byteB at h
  simp only [Bool.and_eq_true, decide_eq_true_iff] at h
  obtain ⟨⟨⟨h1, h2⟩, h3⟩, h4⟩ := h
  obtain ⟨a0, a1⟩ := of_inB h1
  obtain ⟨a2, a3⟩ := of_inB h2
  exact ⟨a0, a1, a2, a3, h3, h4⟩
set_option maxRecDepth 100000 in
set_option maxHeartbeats 1600000 in
theorem i_areOpts (T : Option Addr) (c : Nat) (l : List OpV) (w : World) (h : CellsAt w T (opF l)) (hn : l.length + opTot l ≤ 1048576) :
    Calls Try.prog 75 #[.slice T l.length c] w fun e w' => e = .returned (.bool (opsB l)) ∧ Below w.heap.size w w' := by
  have HB : Hid (opsB l = (opsOk l && decide (opSum l ≤ 252))) := rfl
  have HNo : Hid (∀ j, j < l.length → opOk (opA l j) = false → opsOk l = false) := fun j hj h => opsOk_no j hj h
  have HAl : Hid ((∀ i, i < l.length → opOk (opA l i) = true) → opsOk l = true) := fun h => opsOk_all h
  have hsz : ∀ j, j < l.length → (opA l j).data.size ≤ 1048576 := fun j hj => by
    have h1 := opTot_take l j hj
    have h2 := opTot_le l (j + 1)
    have e : opSz (opA l j) = (opA l j).data.size := rfl
    omega
  have hsum := opSum_eq l
  have CS : Hid (∀ u : World, Below w.heap.size w u → Calls Try.prog 84 #[.slice T l.length c] u fun e w' => e = .returned (.int .i64 (opSum l : Int)) ∧ Below u.heap.size u w') := fun u hu => i_optsSize T c l u (h.below hu) hn
  go_enter Try.func75, Try.ntmps75
  go_wp2
  go_loopw [7] (fun i wr => ∃ j : Nat, j ≤ l.length ∧ i = .int .i64 (j : Int) ∧ Hid (∀ i, i < j → opOk (opA l i) = true) ∧ Below w.heap.size w wr) (fun i _ => ((l.length : Int) - intOf i).toNat)
  case atStart => exact ⟨0, by omega, rfl, fun i hi => by omega, Below.refl _ _⟩
  case round =>
    obtain ⟨j, hj, rfl, HP, hb⟩ := hrel
    by_cases hlt : j < l.length
    · rcases h.below hb with h | ⟨g, off, rfl, hg, hc⟩
      · have := opF_len l; rw [h] at this; simp at this; omega
      · have hcs := op_cells hc j hlt
        clear hc
        have hj1 : (j : Int) < (l.length : Int) := by omega
        have CO : Hid (∀ u : World, Calls Try.prog 83 #[.agg (opL (opA l j))] u fun e w' => e = .returned (.bool (opOk (opA l j))) ∧ Below u.heap.size u w') := fun u => i_isOpt _ u (hsz j hlt)
        have hB1 := hb.alloc hb.size (.cells (opL (opA l j)) 33)
        have hok := HNo.out j hlt
        have hnx : opOk (opA l j) = true → ∀ i, i < j + 1 → opOk (opA l i) = true := fun h1 i hi => by
          by_cases e : i = j
          · rw [e]; exact h1
          · exact HP.out i (by omega)
        have HOK : Hid (opOk (opA l j) = false → opsOk l = false) := hok
        have HNX : Hid (opOk (opA l j) = true → ∀ i, i < j + 1 → opOk (opA l i) = true) := hnx
        clear hok hnx hsz
        generalize opOk (opA l j) = ok at *
        generalize opA l j = a at *
        obtain ⟨cls, typ, data⟩ := a
        simp only [opL] at *
        go_wp2_with fail
        go_at_call 83
        refine (CO.out _).mono ?_
        rintro e w2 ⟨rfl, hX⟩
        replace hB1 := hB1.trans (hX.mono hB1.size)
        clear hX
        cases ok
        · go_wp2
          go_ret
          exact ⟨ret_bool (by rw [HB.out, HOK.out (by first | rfl | trivial)]; rfl), hB1⟩
        · go_wp2
          go_roundw
          case rel => exact ⟨j + 1, by omega, by go_num, HNX.out (by first | rfl | trivial), hB1⟩
          case measure => simp [intOf]; omega
    · have e : j = l.length := by omega
      subst e
      go_wp2_with (go_at_call 84; refine (CS.out _ hb).mono ?_; rintro e w1 ⟨rfl, hX⟩)
      go_ret
      exact ⟨ret_bool (by rw [HB.out, HAl.out HP.out, Bool.true_and, Bool.eq_iff_iff, decide_eq_true_iff, decide_eq_true_iff]; omega), hb.trans (hX.mono hb.size)⟩
set_option maxRecDepth 100000 in
theorem i_isCritical (a : OpV) (w : World) : Calls Try.prog 80 #[.agg (opL a)] w fun e w' => e = .returned (.bool (opCr a)) ∧ Below w.heap.size w w' := by
  obtain ⟨cls, typ, data⟩ := a
  simp only [opL, opCr]
  go_enter Try.func80, Try.ntmps80
  go_wp2
  go_ret
  exact ⟨by first | rfl | exact ret_bool (by rw [Bool.eq_iff_iff]; simp), (Below.refl _ w).alloc (Nat.le_refl _) _⟩
set_option maxRecDepth 100000 in
set_option maxHeartbeats 1600000 in
theorem i_hasCritical (T : Option Addr) (c : Nat) (l : List OpV) (w : World) (h : CellsAt w T (opF l)) (hn : l.length ≤ 1048576) :
    Calls Try.prog 122 #[.slice T l.length c] w fun e w' => e = .returned (.bool (opsCr l)) ∧ Below w.heap.size w w' := by
  have HYes : Hid (∀ j, j < l.length → opCr (opA l j) = true → opsCr l = true) := fun j hj h => opsCr_yes j hj h
  have HNo : Hid ((∀ i, i < l.length → opCr (opA l i) = false) → opsCr l = false) := fun h => opsCr_no h
  generalize opsCr l = cr at *
  go_enter Try.func122, Try.ntmps122
  go_wp2
  go_loopw [7] (fun i wr => ∃ j : Nat, j ≤ l.length ∧ i = .int .i64 (j : Int) ∧ Hid (∀ i, i < j → opCr (opA l i) = false) ∧ Below w.heap.size w wr) (fun i _ => ((l.length : Int) - intOf i).toNat)
  case atStart => exact ⟨0, by omega, rfl, fun i hi => by omega, Below.refl _ _⟩
  case round =>
    obtain ⟨j, hj, rfl, HP, hb⟩ := hrel
    by_cases hlt : j < l.length
    · rcases h.below hb with h | ⟨g, off, rfl, hg, hc⟩
      · have := opF_len l; rw [h] at this; simp at this; omega
      · have hcs := op_cells hc j hlt
        clear hc
        have hj1 : (j : Int) < (l.length : Int) := by omega
        have CO : Hid (∀ u : World, Calls Try.prog 80 #[.agg (opL (opA l j))] u fun e w' => e = .returned (.bool (opCr (opA l j))) ∧ Below u.heap.size u w') := fun u => i_isCritical _ u
        have hB1 := hb.alloc hb.size (.cells (opL (opA l j)) 33)
        have HOK : Hid (opCr (opA l j) = true → cr = true) := HYes.out j hlt
        have HNX : Hid (opCr (opA l j) = false → ∀ i, i < j + 1 → opCr (opA l i) = false) := fun h1 i hi => by
          by_cases e : i = j
          · rw [e]; exact h1
          · exact HP.out i (by omega)
        generalize opCr (opA l j) = ok at *
        generalize opA l j = a at *
        obtain ⟨cls, typ, data⟩ := a
        simp only [opL] at *
        go_wp2_with fail
        go_at_call 80
        refine (CO.out _).mono ?_
        rintro e w2 ⟨rfl, hX⟩
        replace hB1 := hB1.trans (hX.mono hB1.size)
        clear hX
        cases ok
        · go_wp2
          go_roundw
          case rel => exact ⟨j + 1, by omega, by go_num, HNX.out (by first | rfl | trivial), hB1⟩
          case measure => simp [intOf]; omega
        · go_wp2
          go_ret
          exact ⟨ret_bool (HOK.out (by first | rfl | trivial)).symm, hB1⟩
    · have e : j = l.length := by omega
      subst e
      go_wp2
      go_ret
      exact ⟨ret_bool (HNo.out HP.out).symm, hb⟩
end Go.Proofs.Ytnheppkjeoiipaa
