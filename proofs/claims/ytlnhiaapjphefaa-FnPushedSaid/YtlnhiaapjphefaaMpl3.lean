/-
  Labels that are read, by the program.
-/
import Derived.Test.YtlnhiaapjphefaaMpl2
import Derived.Test.YtlnhiaapjphefaaRdr
import Derived.Test.YtlnhiaapjphefaaTunAs
import Derived.Test.YtlnhiaapjphefaaTabs0
namespace Go.Proofs.Ytlnhiaapjphefaa
open Go.RowKit Go.PlainAid
def mlab (n : Int) : LbV := ⟨n / 4096, n / 512 % 8, n % 256⟩
def lastAt (s : ByteArray) (i : Nat) : Bool := decide (numAt s (4 * (i : Int)) 4 / 256 % 2 = 1)
def labsOf (s : ByteArray) (j : Nat) : List LbV := (List.range j).map fun i : Nat => mlab (numAt s (4 * (i : Int)) 4)
theorem labsOf_len (s : ByteArray) (j : Nat) : (labsOf s j).length = j := by simp [labsOf]
theorem labsOf_succ (s : ByteArray) (j : Nat) : labsOf s (j + 1) = labsOf s j ++ [mlab (numAt s (4 * (j : Int)) 4)] := by simp [labsOf, List.range_succ]
def mcnt (s : ByteArray) : Nat := if lastAt s 0 then 1 else if lastAt s 1 then 2 else if lastAt s 2 then 3 else if lastAt s 3 then 4 else 5
theorem mcnt_at (s : ByteArray) (j : Nat) (hj : j < 5) (h : ∀ i, i < j → lastAt s i = false) (hl : lastAt s j = true) : mcnt s = j + 1 := by
  unfold mcnt
  match j, hj with
  | 0, _ => simp [hl]
  | 1, _ => simp [hl, h 0 (by omega)]
  | 2, _ => simp [hl, h 0 (by omega), h 1 (by omega)]
  | 3, _ => simp [hl, h 0 (by omega), h 1 (by omega), h 2 (by omega)]
  | 4, _ => simp [h 0 (by omega), h 1 (by omega), h 2 (by omega), h 3 (by omega)]
theorem mcnt_all (s : ByteArray) (h : ∀ i, i < 5 → lastAt s i = false) : mcnt s = 5 := by
  unfold mcnt; simp [h 0 (by omega), h 1 (by omega), h 2 (by omega), h 3 (by omega)]
theorem mcnt_bd (s : ByteArray) : 1 ≤ mcnt s ∧ mcnt s ≤ 5 := by
  unfold mcnt; repeat (first | omega | split)
theorem mcnt_lt (s : ByteArray) (j : Nat) (hj : j < 5) (h : ∀ i, i < j → lastAt s i = false) : j < mcnt s := by
  unfold mcnt
  match j, hj with
  | 0, _ => repeat (first | omega | split)
  | 1, _ => simp only [h 0 (by omega), Bool.false_eq_true, if_false]; repeat (first | omega | split)
  | 2, _ => simp only [h 0 (by omega), h 1 (by omega), Bool.false_eq_true, if_false]; repeat (first | omega | split)
  | 3, _ => simp only [h 0 (by omega), h 1 (by omega), h 2 (by omega), Bool.false_eq_true, if_false]; repeat (first | omega | split)
  | 4, _ => simp only [h 0 (by omega), h 1 (by omega), h 2 (by omega), h 3 (by omega), Bool.false_eq_true, if_false]; repeat (first | omega | split)
theorem numAt4_bd (s : ByteArray) (p : Int) : 0 ≤ numAt s p 4 ∧ numAt s p 4 < 4294967296 := by
  unfold numAt; split
  · have := num_bounds (((bl s).drop p.toNat).take (4 : Int).toNat)
    have hl : (((bl s).drop p.toNat).take (4 : Int).toNat).length ≤ 4 := by rw [List.length_take]; exact Nat.min_le_left _ _
    refine ⟨this.1, Int.lt_of_lt_of_le this.2 ?_⟩
    generalize (((bl s).drop p.toNat).take (4 : Int).toNat).length = n at *
    obtain h | h | h | h | h : n = 0 ∨ n = 1 ∨ n = 2 ∨ n = 3 ∨ n = 4 := by omega
    all_goals rw [h]; decide
  · omega
theorem bits_and_n (a b : Nat) (ha : a < 2 ^ 62) (hb : b < 2 ^ 62) : bits .and .i64 (a : Int) (b : Int) = ((a &&& b : Nat) : Int) := by
  simp only [bits, BitVec.ofInt_natCast, BitVec.toNat_and, BitVec.toNat_ofNat]
  have q1 : a % 2 ^ IntKind.bits .i64 = a := Nat.mod_eq_of_lt (Nat.lt_of_lt_of_le ha (by decide))
  have q2 : b % 2 ^ IntKind.bits .i64 = b := Nat.mod_eq_of_lt (Nat.lt_of_lt_of_le hb (by decide))
  rw [q1, q2]
  have : a &&& b ≤ a := Nat.and_le_left
  exact wraps_i64 _ (by omega) (by omega)
theorem and_256 {x : Int} (h₀ : 0 ≤ x) (h₁ : x < 4294967296) : bits .and .i64 x 256 = x / 256 % 2 * 256 := by
  obtain ⟨a, rfl⟩ := Int.eq_ofNat_of_zero_le h₀
  have e := bits_and_n a 256 (by omega) (by decide)
  have e2 : (((256 : Nat) : Int)) = 256 := rfl
  rw [e2] at e
  rw [e]
  have e3 : a &&& 256 = a / 256 % 2 * 256 := by
    have hb : a.testBit 8 = decide (a / 2 ^ 8 % 2 = 1) := Nat.testBit_eq_decide_div_mod_eq
    have e8 : (2 : Nat) ^ 8 = 256 := by decide
    rw [e8] at hb
    by_cases hq : a / 256 % 2 = 1
    · rw [hq, Nat.one_mul]
      apply Nat.eq_of_testBit_eq
      intro i
      rw [Nat.testBit_and, ← e8, Nat.testBit_two_pow]
      by_cases hi : 8 = i
      · subst hi; rw [hb, decide_eq_true hq]; simp
      · simp [hi]
    · have h0 : a / 256 % 2 = 0 := by omega
      rw [h0, Nat.zero_mul]
      apply Nat.eq_of_testBit_eq
      intro i
      rw [Nat.testBit_and, ← e8, Nat.testBit_two_pow]
      by_cases hi : 8 = i
      · subst hi; rw [hb, decide_eq_false hq]; simp
      · simp [hi]
  rw [e3]; omega
theorem and_7 {x : Int} (h₀ : 0 ≤ x) (h₁ : x < 2 ^ 63) : bits .and .i64 x 7 = x % 8 := bits_mask .i64 63 (by decide) wraps_i64 3 (by decide) x h₀ h₁
theorem and_1 {x : Int} (h₀ : 0 ≤ x) (h₁ : x < 2 ^ 63) : bits .and .i64 x 1 = x % 2 := bits_mask .i64 63 (by decide) wraps_i64 1 (by decide) x h₀ h₁
def slLen : Value → Nat
  | .slice _ n _ => n
  | _ => 0
structure LabTo (w w' : World) (b : Nat) (s : ByteArray) (j : Nat) : Prop where
  out : ∃ (p : Int) (f : Bool), Bx w' b (rdx s p f) ∧ Fx w' b ∧ w.grownBy w' (some b) ∧ 0 ≤ p ∧ p ≤ s.size ∧ (4 * (j : Int) ≤ s.size → p = 4 * (j : Int) ∧ f = false) ∧ ((s.size : Int) < 4 * (j : Int) → f = true ∧ (s.size : Int) < p + 4)
theorem LabTo.far {w w1 w3 : World} {b : Nat} {s : ByteArray} {j : Nat} (h : LabTo w w1 b s j) (hb : Below w.heap.size w1 w3) (hbw : b < w.heap.size) : LabTo w w3 b s j := by
  obtain ⟨p, f, hA, hF, hG, r⟩ := h.out
  refine ⟨⟨p, f, ⟨Nat.lt_of_lt_of_le hA.1 hb.size, fun i v hi => (hb.cell (p := ⟨b, i, none⟩) hbw).trans (hA.2 i v hi)⟩, ⟨Nat.lt_of_lt_of_le hF.1 hb.size, fun i => (World.frozen?_of_block (a := ⟨b, i, none⟩) (hb.block b hbw)).trans (hF.2 i)⟩, ⟨hb.os.trans hG.os, hb.tape.trans hG.tape, hb.output.trans hG.output, Nat.le_trans hG.size hb.size, fun k hk hr => (hb.block k hk).trans (hG.block k hk hr)⟩, r⟩⟩
set_option maxRecDepth 100000 in
set_option maxHeartbeats 6400000 in
theorem i_labels (s : ByteArray) (b : Nat) (w : World) (hA : Bx w b (rdx s 0 false)) (hF : Fx w b) (hs : s.size ≤ 1099511627776) :
    Calls Try.prog 67 #[.pointer (some ⟨b, 0, none⟩)] w fun e w' => ∃ v, e = .returned v ∧ ownR w' w.heap.size 55 3 v (mcnt s) (lbF (labsOf s (mcnt s))) ∧ LabTo w w' b s (mcnt s) := by
  have CN : Hid (∀ (p : Int) (f : Bool) (u : World), Bx u b (rdx s p f) → Fx u b → 0 ≤ p → p ≤ s.size → Calls Try.prog 51 #[.pointer (some ⟨b, 0, none⟩), .int .i64 4] u fun e w' => e = .returned (.int .i64 (numAt s p 4)) ∧ RxTo u w' b s (nxP s p 4) (nxF s p 4 f)) := fun p f u h1 h2 h3 h4 => i_rdNumber s p 4 f _ u h1 h2 h3 h4 (by omega) (by omega) hs
  have hbw := hA.1
  go_enter Try.func67, Try.ntmps67
  go_wp2
  go_loopw [3] (fun v wr => ∃ j : Nat, j ≤ 5 ∧ ownR wr w.heap.size 55 3 v j (lbF (labsOf s j)) ∧ Hid (∀ i, i < j → lastAt s i = false) ∧ LabTo w wr b s j) (fun v _ => 5 - slLen v)
  case atStart => exact ⟨0, by omega, ownR.nil _ _ _ _, fun i hi => by omega, ⟨⟨0, false, hA, hF, grownBy_refl _ _, by omega, by omega, fun _ => ⟨by omega, rfl⟩, fun h => by omega⟩⟩⟩
  case round =>
    obtain ⟨j, hj, ho, hst, hT⟩ := hrel
    obtain ⟨p, f, hA, hF, hG, hp0, hp1, hq1, hq2⟩ := hT.out
    obtain ⟨T, c, rfl⟩ := ho.form
    by_cases hlt : j < 5
    · have hj1 : (j : Int) ≤ 4 := by omega
      go_wp2_with fail
      go_at_call 51
      refine (CN.out p f _ hA hF hp0 hp1).mono ?_
      rintro e w1 ⟨rfl, hR⟩
      have hn : numAt s p 4 = numAt s (4 * (j : Int)) 4 := by
        by_cases h4 : 4 * (j : Int) ≤ s.size
        · rw [(hq1 h4).1]
        · have h5 := (hq2 (by omega)).2
          rw [(okN_false (s := s) (at_ := p) (k := 4) (by omega)).2, (okN_false (s := s) (at_ := 4 * (j : Int)) (k := 4) (by omega)).2]
      rw [hn]
      have ho1 := own_kept ho hR.grown (fun k hk => by have := (World.ownsRow.lt ho k hk).1; simp; omega)
      have hT1 : LabTo w w1 b s (j + 1) := by
        have i1 := nxP_in (s := s) (p := p) (k := 4) hp0 hp1 (by omega)
        refine ⟨⟨_, _, hR.box, hR.free, gby_trans hG hR.grown, i1.1, i1.2, fun h4 => ?_, fun h4 => ?_⟩⟩
        · obtain ⟨e1, e2⟩ := hq1 (by omega)
          subst e1 e2
          rw [nxP, nxF, if_pos (by omega), if_pos (by omega)]
          exact ⟨by omega, rfl⟩
        · by_cases h5 : 4 * (j : Int) ≤ s.size
          · obtain ⟨e1, e2⟩ := hq1 h5
            subst e1 e2
            rw [nxP, nxF, if_neg (by omega), if_neg (by omega)]
            exact ⟨rfl, by omega⟩
          · obtain ⟨e1, e2⟩ := hq2 (by omega)
            rw [nxP, nxF, if_neg (by omega), if_neg (by omega)]
            exact ⟨rfl, by omega⟩
      have hsz : w.heap.size ≤ w1.heap.size := by have := hG.size; have := hR.grown.size; omega
      clear hA hF hG hp0 hp1 hq1 hq2 hT hR hn ho
      obtain ⟨n0, n1⟩ := numAt4_bd s (4 * (j : Int))
      have HL : Hid (lastAt s j = decide (numAt s (4 * (j : Int)) 4 / 256 % 2 = 1)) := rfl
      have HS : Hid (labsOf s (j + 1) = labsOf s j ++ [⟨numAt s (4 * (j : Int)) 4 / 4096, numAt s (4 * (j : Int)) 4 / 512 % 8, numAt s (4 * (j : Int)) 4 % 256⟩]) := labsOf_succ s j
      generalize numAt s (4 * (j : Int)) 4 = n at *
      have t1 : Int.tdiv n 4096 = n / 4096 := Int.tdiv_eq_ediv_of_nonneg n0
      have t2 : Int.tdiv n 512 = n / 512 := Int.tdiv_eq_ediv_of_nonneg n0
      have b1 : bits .and .i64 (n / 512) 7 = n / 512 % 8 := and_7 (by omega) (by omega)
      have b2 : bits .and .i64 n 255 = n % 256 := and_255 n0 (by omega)
      have b3 : bits .and .i64 n 256 = n / 256 % 2 * 256 := and_256 n0 n1
      by_cases hl : n / 256 % 2 = 1
      · have hla : lastAt s j = true := by rw [HL.out, decide_eq_true hl]
        have HM : Hid (mcnt s = j + 1) := mcnt_at s j hlt hst.out hla
        have b4 : (n / 256 % 2 * 256 != 0) = true := by rw [hl]; rfl
        clear hla HL hl
        go_wp2_with (at_builtin; refine wpList_append_recs Try.infLabel rfl _ _ rfl w.heap.size _ _ _ rfl (ho1.alloc _) _ 1 1 [n / 4096, n / 512 % 8, n % 256] rfl (by simp) (by simp) (ints_new w1 55 [n / 4096, n / 512 % 8, n % 256]) (by omega) (by simp; omega) ?_; intro v' w3 ho3 hb3)
        go_ret
        refine ⟨_, rfl, ?_, ?_⟩
        · rw [HM.out, HS.out, lbF_app]; exact ho3
        · rw [HM.out]; exact hT1.far (((Below.refl w.heap.size w1).alloc hsz _).trans hb3) hbw
      · have hla : lastAt s j = false := by rw [HL.out, decide_eq_false hl]
        have HH : Hid (∀ i, i < j + 1 → lastAt s i = false) := fun i hi => by
          by_cases e : i = j
          · rw [e]; exact hla
          · exact hst.out i (by omega)
        have b4 : (n / 256 % 2 * 256 != 0) = false := by rw [show n / 256 % 2 = 0 by omega]; rfl
        clear hla HL hl
        go_wp2_with (at_builtin; refine wpList_append_recs Try.infLabel rfl _ _ rfl w.heap.size _ _ _ rfl (ho1.alloc _) _ 1 1 [n / 4096, n / 512 % 8, n % 256] rfl (by simp) (by simp) (ints_new w1 55 [n / 4096, n / 512 % 8, n % 256]) (by omega) (by simp; omega) ?_; intro v' w3 ho3 hb3)
        go_roundw
        case rel =>
          refine ⟨j + 1, by omega, ?_, HH, hT1.far (((Below.refl w.heap.size w1).alloc hsz _).trans hb3) hbw⟩
          rw [HS.out, lbF_app]; exact ho3
        case measure =>
          obtain ⟨T3, c3, rfl⟩ := ho3.form
          simp [slLen]; omega
    · have e : j = 5 := by omega
      subst e
      have HM : Hid (mcnt s = 5) := mcnt_all s hst.out
      go_wp2
      go_ret
      exact ⟨_, rfl, by rw [HM.out]; exact ho, by rw [HM.out]; exact hT⟩
end Go.Proofs.Ytlnhiaapjphefaa
