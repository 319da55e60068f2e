/-
  The program's reader of datagrams: parsedIp.
-/
import Derived.Test.YtgknkhhoelgnhaaDoorIpRd2
import Derived.Test.YtgknkhhoelgnhaaDoorRdr
import Derived.Deep.RegionWith
import Derived.Deep.Cut
import Derived.Deep.CutRange
namespace Go.Proofs.YtgknkhhoelgnhaaDoor
open Go.RowKit Go.PlainAid
theorem Fx.belowR {W W' : World} {b : Nat} (h : Fx W b) (hb : Below W.heap.size W W') : Fx W' b :=
  ⟨Nat.lt_of_lt_of_le h.1 hb.size, fun j => (hb.frozen (p := ⟨b, j, none⟩) h.1).trans (h.2 j)⟩
theorem Fx.newR (W : World) (vs : Array Value) (t : TypeId) : Fx (W.alloc (.cells vs t)) W.heap.size := Fx.new W vs t
abbrev ipZ : List Value := [.int .i64 0, .int .i64 0, .bool false, .bool false, .int .i64 0, .int .i64 0, .int .i64 0, .int .i64 0, .int .i64 0, .string ⟨#[]⟩, .string ⟨#[]⟩]
def anD (s : ByteArray) (m : Int) : Int := bits BinOp.and IntKind.i64 (fld s 6 2) m
/-- the eleven cells that are read -/
def ipR (s : ByteArray) : Array Value := #[.int .i64 (fld s 1 1), .int .i64 (fld s 4 2), .bool (anD s 16384 != 0), .bool (anD s 8192 != 0), .int .i64 (anD s 8191), .int .i64 (fld s 8 1), .int .i64 (fld s 9 1), .int .i64 (fld s 12 4), .int .i64 (fld s 16 4), .string (s.extract 20 (hdr s)), .string (s.extract (hdr s) s.size)]
theorem bits_and_natR (a b : Nat) (ha : a < 2 ^ 62) (hb : b < 2 ^ 62) : bits .and .i64 (a : Int) (b : Int) = ((a &&& b : Nat) : Int) := by
  simp only [bits, BitVec.ofInt_natCast, BitVec.toNat_and, BitVec.toNat_ofNat]
  have q1 : a % 2 ^ IntKind.bits .i64 = a := Nat.mod_eq_of_lt (Nat.lt_of_lt_of_le ha (by decide))
  have q2 : b % 2 ^ IntKind.bits .i64 = b := Nat.mod_eq_of_lt (Nat.lt_of_lt_of_le hb (by decide))
  rw [q1, q2]
  have : a &&& b ≤ a := Nat.and_le_left
  exact wraps_i64 _ (by omega) (by omega)
theorem fld_bd2 (s : ByteArray) (a : Int) : 0 ≤ fld s a 2 ∧ fld s a 2 < 65536 := by
  have h := num_bounds (((bl s).drop a.toNat).take (2 : Int).toNat)
  have hl : (((bl s).drop a.toNat).take (2 : Int).toNat).length ≤ 2 := by rw [List.length_take]; exact Nat.min_le_left _ _
  refine ⟨h.1, Int.lt_of_lt_of_le h.2 ?_⟩
  have : (256 : Int) ^ (((bl s).drop a.toNat).take (2 : Int).toNat).length ≤ 256 ^ 2 := by
    have : ∀ n : Nat, n ≤ 2 → (256 : Int) ^ n ≤ 256 ^ 2 := fun n hn => by
      have : n = 0 ∨ n = 1 ∨ n = 2 := by omega
      rcases this with rfl | rfl | rfl <;> decide
    exact this _ hl
  exact this
theorem fld_one (s : ByteArray) (k : Nat) (h : k < s.size) : fld s (k : Int) 1 = bt s k := by
  have := num_take_succ s k 0 (by omega)
  simp only [Nat.add_zero, List.take_zero] at this
  show num (((bl s).drop ((k : Int)).toNat).take 1) = _
  rw [show ((k : Int)).toNat = k from Int.toNat_natCast k]
  have e : num ([] : List UInt8) = 0 := rfl
  rw [e] at this
  simpa using this
theorem and_pow2 (n k : Nat) : n &&& 2 ^ k = if n.testBit k then 2 ^ k else 0 := by
  apply Nat.eq_of_testBit_eq
  intro i
  rw [Nat.testBit_and, Nat.testBit_two_pow]
  by_cases hik : k = i
  · subst hik
    cases h : n.testBit k <;> simp [Nat.testBit_two_pow_self]
  · cases h : n.testBit k <;> simp [hik]
theorem anD_bit (s : ByteArray) (k : Nat) (hk : k < 16) : (anD s ((2 ^ k : Nat) : Int) != 0) = decide (fld s 6 2 / ((2 ^ k : Nat) : Int) % 2 = 1) := by
  obtain ⟨h0, h1⟩ := fld_bd2 s 6
  obtain ⟨n, hn⟩ := Int.eq_ofNat_of_zero_le h0
  have hp : 2 ^ k ≤ 2 ^ 16 := Nat.pow_le_pow_right (by decide) (by omega)
  unfold anD
  rw [hn, bits_and_natR n (2 ^ k) (by omega) (by omega), and_pow2]
  have e0 : (n : Int) / ((2 ^ k : Nat) : Int) % 2 = ((n / 2 ^ k % 2 : Nat) : Int) := by rw [Int.natCast_emod, Int.natCast_ediv]; rfl
  have e : decide ((n : Int) / ((2 ^ k : Nat) : Int) % 2 = 1) = n.testBit k := by
    rw [Nat.testBit_eq_decide_div_mod_eq]
    exact decide_eq_decide.2 (by rw [e0]; generalize n / 2 ^ k % 2 = q; omega)
  rw [e]
  have hpos : 0 < 2 ^ k := Nat.two_pow_pos k
  cases n.testBit k
  · rfl
  · have h2 : ((2 ^ k : Nat) : Int) ≠ 0 := by omega
    simpa using h2
theorem anD_low (s : ByteArray) : anD s 8191 = fld s 6 2 % 8192 := by
  obtain ⟨h0, h1⟩ := fld_bd2 s 6
  obtain ⟨n, hn⟩ := Int.eq_ofNat_of_zero_le h0
  unfold anD
  rw [hn, show (8191 : Int) = ((2 ^ 13 - 1 : Nat) : Int) from rfl, bits_and_natR n _ (by omega) (by decide), Nat.and_two_pow_sub_one_eq_mod]
  omega
theorem ipR_eq (s : ByteArray) (h : 20 ≤ s.size) : ipR s = ipL (ipV s) := by
  have e1 : fld s 1 1 = bt s 1 := fld_one s 1 (by omega)
  have e8 : fld s 8 1 = bt s 8 := fld_one s 8 (by omega)
  have e9 : fld s 9 1 = bt s 9 := fld_one s 9 (by omega)
  have b1 : (anD s 16384 != 0) = decide (fld s 6 2 / 16384 % 2 = 1) := anD_bit s 14 (by decide)
  have b2 : (anD s 8192 != 0) = decide (fld s 6 2 / 8192 % 2 = 1) := anD_bit s 13 (by decide)
  have b3 := anD_low s
  unfold ipR ipL ipV
  simp only
  rw [b1, b2, b3, e1, e8, e9]
/-- what each operation leaves -/
def rdF (s : ByteArray) (B : Nat) : Nat → Value → World → Prop
  | 0, x, _ => x = .string s
  | 1, x, _ => x = .int .i64 (fld s 1 1)
  | 2, x, _ => x = .string s
  | 3, x, _ => x = .int .i64 (fld s 4 2)
  | 4, x, _ => x = .int .i64 (fld s 6 2)
  | 5, x, _ => x = .int .i64 (anD s 16384)
  | 6, x, _ => x = .bool (anD s 16384 != 0)
  | 7, x, _ => x = .int .i64 (fld s 6 2)
  | 8, x, _ => x = .int .i64 (anD s 8192)
  | 9, x, _ => x = .bool (anD s 8192 != 0)
  | 10, x, _ => x = .int .i64 (fld s 6 2)
  | 11, x, _ => x = .int .i64 (anD s 8191)
  | 12, x, _ => x = .string s
  | 13, x, _ => x = .int .i64 (fld s 8 1)
  | 14, x, _ => x = .string s
  | 15, x, _ => x = .int .i64 (fld s 9 1)
  | 16, x, _ => x = .string s
  | 17, x, _ => x = .int .i64 (fld s 12 4)
  | 18, x, _ => x = .string s
  | 19, x, _ => x = .int .i64 (fld s 16 4)
  | 20, x, _ => x = .string s
  | 21, x, _ => x = .int .i64 (hdr s : Int)
  | 22, x, _ => x = .string (s.extract 20 (hdr s))
  | 23, x, _ => x = .string (s.extract 20 (hdr s))
  | 24, x, _ => x = .string s
  | 25, x, _ => x = .int .i64 (hdr s : Int)
  | 26, x, _ => x = .string (s.extract (hdr s) s.size)
  | 27, x, _ => x = .string (s.extract (hdr s) s.size)
  | 28, x, _ => x = .agg (ipR s)
  | 29, x, w => ∃ g, x = .pointer (some ⟨g, 0, none⟩) ∧ B ≤ g ∧ Bx w g ipZ ∧ Fx w g
  | _ + 30, _, _ => True
theorem rdF_same {s : ByteArray} {B : Nat} {w w' : World} (hb : Below w.heap.size w w') : ∀ (i : Nat) (x : Value), rdF s B i x w → rdF s B i x w'
  | 0, _, h => h
  | 1, _, h => h
  | 2, _, h => h
  | 3, _, h => h
  | 4, _, h => h
  | 5, _, h => h
  | 6, _, h => h
  | 7, _, h => h
  | 8, _, h => h
  | 9, _, h => h
  | 10, _, h => h
  | 11, _, h => h
  | 12, _, h => h
  | 13, _, h => h
  | 14, _, h => h
  | 15, _, h => h
  | 16, _, h => h
  | 17, _, h => h
  | 18, _, h => h
  | 19, _, h => h
  | 20, _, h => h
  | 21, _, h => h
  | 22, _, h => h
  | 23, _, h => h
  | 24, _, h => h
  | 25, _, h => h
  | 26, _, h => h
  | 27, _, h => h
  | 28, _, h => h
  | 29, _, ⟨g, e, hg, h1, h2⟩ => ⟨g, e, hg, h1.below hb, h2.belowR hb⟩
  | _ + 30, _, _ => trivial
theorem mh_ok {s : ByteArray} (h : mhCode s = 0) : hdr s ≤ s.size ∧ 20 ≤ hdr s := by
  unfold mhCode at h
  split at h
  · cases h
  · split at h
    · cases h
    · split at h
      · cases h
      · rename_i k1 k2 k3
        refine ⟨by omega, ?_⟩
        unfold hdr
        omega
theorem mh_code {s : ByteArray} (h : mhCode s ≠ 0) : ipCode s = (mhCode s : Int) ∧ readIp s = ip0 := by
  have e : ipCode s = (mhCode s : Int) := by
    unfold mhCode at h ⊢
    unfold ipCode
    split at h
    · rename_i k; rw [if_pos k, if_pos k]; rfl
    · rename_i k; rw [if_neg k, if_neg k]
      split at h
      · rename_i k; rw [if_pos k, if_pos k]; rfl
      · rename_i k; rw [if_neg k, if_neg k]
        split at h
        · rename_i k; rw [if_pos k, if_pos k]; rfl
        · rename_i k; rw [if_neg k, if_neg k]
          split at h
          · rename_i k; rw [if_pos k, if_pos k]; rfl
          · exact absurd rfl h
  exact ⟨e, by unfold readIp; rw [if_neg (by rw [e]; omega)]⟩
set_option maxRecDepth 100000 in
set_option maxHeartbeats 3200000 in
theorem i_parsedIp (A : Nat → Addr) (s : ByteArray) (w : World) (hs : s.size ≤ 1099511627776) (hE : Errs A w) :
    Calls Tryd.prog 58 #[.string s] w fun e w' => e = .returned (.tuple #[.agg (ipL (readIp s)), errV A (ipCode s).toNat]) ∧ Below w.heap.size w w' := by
  have CF : Hid (∀ (x k : Int) (u : World), 0 ≤ x → 1 ≤ k → k ≤ 7 → x + k ≤ s.size → Calls Tryd.prog 47 #[.string s, .int .i64 x, .int .i64 k] u fun e w' => e = .returned (.int .i64 (fld s x k)) ∧ w' = u) := fun x k u h0 h1 h2 h3 => i_fieldAt s x k u hs h0 h1 h2 h3
  have CM : Hid (∀ u : World, Below w.heap.size w u → Calls Tryd.prog 91 #[.string s] u fun e w' => e = .returned (.tuple #[.int .i64 (mhSize s), errV A (mhCode s)]) ∧ Below u.heap.size u w') := fun u hb => i_measuredHead A s u hs (hE.below hb)
  have hb0 : Below w.heap.size w (w.alloc (.cells #[.int .i64 0, .int .i64 0, .bool false, .bool false, .int .i64 0, .int .i64 0, .int .i64 0, .int .i64 0, .int .i64 0, .string ⟨#[]⟩, .string ⟨#[]⟩] 32)) := (Below.refl _ w).alloc (Nat.le_refl _) _
  have hR0 := Bx.new w #[.int .i64 0, .int .i64 0, .bool false, .bool false, .int .i64 0, .int .i64 0, .int .i64 0, .int .i64 0, .int .i64 0, .string ⟨#[]⟩, .string ⟨#[]⟩] 32
  have hF0 := Fx.new w #[.int .i64 0, .int .i64 0, .bool false, .bool false, .int .i64 0, .int .i64 0, .int .i64 0, .int .i64 0, .int .i64 0, .string ⟨#[]⟩, .string ⟨#[]⟩] 32
  by_cases h0 : mhCode s = 0
  · have hif : Tryd.prog.isIface 61 = true := by kernel_rfl
    have hmz : mhSize s = hdr s := by unfold mhSize; rw [if_pos h0]
    rw [h0, hmz] at CM
    have h20 : 20 ≤ s.size := by
      by_cases h : s.size < 20
      · unfold mhCode at h0; rw [if_pos h] at h0; cases h0
      · omega
    obtain ⟨hhd, hh2⟩ := mh_ok h0
    clear hmz
    go_enter Tryd.func58, Tryd.ntmps58
    go_wp2_with fail
    go_at_call 91
    refine (CM.out _ hb0).mono ?_
    rintro e w1 ⟨rfl, hb⟩
    have hB := hb0.trans (hb.mono hb0.size)
    have hs1 : w.heap.size < w1.heap.size := Nat.lt_of_lt_of_le hR0.1 hb.size
    replace hR0 := hR0.below hb
    replace hF0 : Fx w1 w.heap.size := ⟨Nat.lt_of_lt_of_le hF0.1 hb.size, fun j => (hb.frozen (p := ⟨w.heap.size, j, none⟩) hF0.1).trans (hF0.2 j)⟩
    clear hb CM hb0
    simp only [errV]
    go_wp2_with (go_at_call 47; refine (CF.out 6 2 _ (by decide) (by decide) (by decide) (by omega)).mono ?_; rintro e wq ⟨rfl, hq⟩; rw [hq]; clear hq wq)
    have CC1 : Hid (∀ u : World, Calls Tryd.prog 92 #[.string (s.extract 20 (hdr s))] u fun e w' => e = .returned (.string (s.extract 20 (hdr s))) ∧ Below u.heap.size u w') := fun u => c_Clone _ u (by rw [ByteArray.size_extract]; omega)
    have CC2 : Hid (∀ u : World, Calls Tryd.prog 92 #[.string (s.extract (hdr s) s.size)] u fun e w' => e = .returned (.string (s.extract (hdr s) s.size)) ∧ Below u.heap.size u w') := fun u => c_Clone _ u (by rw [ByteArray.size_extract]; omega)
    refine wp_region_inv (fun v => ⟨#[.string s, undef, .pointer (some ⟨w.heap.size, 0, none⟩), .nilIface, .int .i64 (hdr s : Int), .nilIface, .int .i64 (fld s 6 2), v 29, .tuple #[.int .i64 (hdr s : Int), .nilIface], .string s, .tuple #[.int .i64 (hdr s : Int), .nilIface], .int .i64 (hdr s : Int), .nilIface, .nilIface, .bool false, undef, undef, .string s, .int .i64 (fld s 6 2), v 0, v 1, v 2, v 3, v 4, v 5, v 6, v 7, v 8, v 9, v 10, v 11, v 12, v 13, v 14, v 15, v 16, v 17, v 18, v 19, v 20, v 21, v 22, v 23, v 24, v 25, v 26, v 27, v 28, undef, undef, undef, undef, undef, undef, undef, undef, undef, undef, undef], []⟩) (QJ 30 29 (fun u => Below w1.heap.size w1 u) (rdF s w1.heap.size) (fun x u => ∃ g, x = .pointer (some ⟨g, 0, none⟩) ∧ w1.heap.size ≤ g ∧ Bx u g (ipR s).toList ∧ Fx u g)) (fun _ => undef) (by kernel_rfl) (by kernel_rfl) rfl ?_ ?_ ?_
    case refine_1 =>
      intro L hL
      refine QJ.start (Below.refl _ w1).drew (fun i x hi => ?_) hL
      obtain ⟨m, rfl⟩ : ∃ m, i = m + 30 := ⟨i - 30, by omega⟩
      trivial
    case refine_2 =>
      refine Steps.cons rfl (fun L v u hJ hL hd K hK => ?_) ?_
      · have hI := hJ.inv
        clear hd
        go_simp
        exact hK (updV v 0 _) _ (hJ.next 0 _ (by decide) hL hI (fun _ _ h => h) rfl)
      refine Steps.cons rfl (fun L v u hJ hL hd K hK => ?_) ?_
      · have hI := hJ.inv
        have hF := hJ.F (hJ.hN (by decide) hL)
        have e0 : v 0 = .string s := hF 0 (hd ⟨0, .data⟩ (by simp) rfl)
        clear hF
        clear hd
        go_simp
        refine (CF.out 1 1 _ (by decide) (by decide) (by decide) (by omega)).mono ?_
        rintro e u1 ⟨rfl, hq⟩
        rw [hq]
        exact hK (updV (updV v 0 (.string s)) 1 _) _ (by rw [updV_eq e0]; exact hJ.next 1 _ (by decide) hL hI (fun _ _ h => h) rfl)
      refine Steps.cons rfl (fun L v u hJ hL hd K hK => ?_) ?_
      · have hI := hJ.inv
        clear hd
        go_simp
        exact hK (updV v 2 _) _ (hJ.next 2 _ (by decide) hL hI (fun _ _ h => h) rfl)
      refine Steps.cons rfl (fun L v u hJ hL hd K hK => ?_) ?_
      · have hI := hJ.inv
        have hF := hJ.F (hJ.hN (by decide) hL)
        have e2 : v 2 = .string s := hF 2 (hd ⟨2, .data⟩ (by simp) rfl)
        clear hF
        clear hd
        go_simp
        refine (CF.out 4 2 _ (by decide) (by decide) (by decide) (by omega)).mono ?_
        rintro e u1 ⟨rfl, hq⟩
        rw [hq]
        exact hK (updV (updV v 2 (.string s)) 3 _) _ (by rw [updV_eq e2]; exact hJ.next 3 _ (by decide) hL hI (fun _ _ h => h) rfl)
      refine Steps.cons rfl (fun L v u hJ hL hd K hK => ?_) ?_
      · have hI := hJ.inv
        clear hd
        go_simp
        exact hK (updV v 4 _) _ (hJ.next 4 _ (by decide) hL hI (fun _ _ h => h) rfl)
      refine Steps.cons rfl (fun L v u hJ hL hd K hK => ?_) ?_
      · have hI := hJ.inv
        have hF := hJ.F (hJ.hN (by decide) hL)
        have e4 : v 4 = .int .i64 (fld s 6 2) := hF 4 (hd ⟨4, .data⟩ (by simp) rfl)
        clear hF
        clear hd
        go_simp
        exact hK (updV (updV v 4 (.int .i64 (fld s 6 2))) 5 _) _ (by rw [updV_eq e4]; exact hJ.next 5 _ (by decide) hL hI (fun _ _ h => h) rfl)
      refine Steps.cons rfl (fun L v u hJ hL hd K hK => ?_) ?_
      · have hI := hJ.inv
        have hF := hJ.F (hJ.hN (by decide) hL)
        have e5 : v 5 = .int .i64 (anD s 16384) := hF 5 (hd ⟨5, .data⟩ (by simp) rfl)
        clear hF
        clear hd
        go_simp
        exact hK (updV (updV v 5 (.int .i64 (anD s 16384))) 6 _) _ (by rw [updV_eq e5]; exact hJ.next 6 _ (by decide) hL hI (fun _ _ h => h) rfl)
      refine Steps.cons rfl (fun L v u hJ hL hd K hK => ?_) ?_
      · have hI := hJ.inv
        clear hd
        go_simp
        exact hK (updV v 7 _) _ (hJ.next 7 _ (by decide) hL hI (fun _ _ h => h) rfl)
      refine Steps.cons rfl (fun L v u hJ hL hd K hK => ?_) ?_
      · have hI := hJ.inv
        have hF := hJ.F (hJ.hN (by decide) hL)
        have e7 : v 7 = .int .i64 (fld s 6 2) := hF 7 (hd ⟨7, .data⟩ (by simp) rfl)
        clear hF
        clear hd
        go_simp
        exact hK (updV (updV v 7 (.int .i64 (fld s 6 2))) 8 _) _ (by rw [updV_eq e7]; exact hJ.next 8 _ (by decide) hL hI (fun _ _ h => h) rfl)
      refine Steps.cons rfl (fun L v u hJ hL hd K hK => ?_) ?_
      · have hI := hJ.inv
        have hF := hJ.F (hJ.hN (by decide) hL)
        have e8 : v 8 = .int .i64 (anD s 8192) := hF 8 (hd ⟨8, .data⟩ (by simp) rfl)
        clear hF
        clear hd
        go_simp
        exact hK (updV (updV v 8 (.int .i64 (anD s 8192))) 9 _) _ (by rw [updV_eq e8]; exact hJ.next 9 _ (by decide) hL hI (fun _ _ h => h) rfl)
      refine Steps.cons rfl (fun L v u hJ hL hd K hK => ?_) ?_
      · have hI := hJ.inv
        clear hd
        go_simp
        exact hK (updV v 10 _) _ (hJ.next 10 _ (by decide) hL hI (fun _ _ h => h) rfl)
      refine Steps.cons rfl (fun L v u hJ hL hd K hK => ?_) ?_
      · have hI := hJ.inv
        have hF := hJ.F (hJ.hN (by decide) hL)
        have e10 : v 10 = .int .i64 (fld s 6 2) := hF 10 (hd ⟨10, .data⟩ (by simp) rfl)
        clear hF
        clear hd
        go_simp
        exact hK (updV (updV v 10 (.int .i64 (fld s 6 2))) 11 _) _ (by rw [updV_eq e10]; exact hJ.next 11 _ (by decide) hL hI (fun _ _ h => h) rfl)
      refine Steps.cons rfl (fun L v u hJ hL hd K hK => ?_) ?_
      · have hI := hJ.inv
        clear hd
        go_simp
        exact hK (updV v 12 _) _ (hJ.next 12 _ (by decide) hL hI (fun _ _ h => h) rfl)
      refine Steps.cons rfl (fun L v u hJ hL hd K hK => ?_) ?_
      · have hI := hJ.inv
        have hF := hJ.F (hJ.hN (by decide) hL)
        have e12 : v 12 = .string s := hF 12 (hd ⟨12, .data⟩ (by simp) rfl)
        clear hF
        clear hd
        go_simp
        refine (CF.out 8 1 _ (by decide) (by decide) (by decide) (by omega)).mono ?_
        rintro e u1 ⟨rfl, hq⟩
        rw [hq]
        exact hK (updV (updV v 12 (.string s)) 13 _) _ (by rw [updV_eq e12]; exact hJ.next 13 _ (by decide) hL hI (fun _ _ h => h) rfl)
      refine Steps.cons rfl (fun L v u hJ hL hd K hK => ?_) ?_
      · have hI := hJ.inv
        clear hd
        go_simp
        exact hK (updV v 14 _) _ (hJ.next 14 _ (by decide) hL hI (fun _ _ h => h) rfl)
      refine Steps.cons rfl (fun L v u hJ hL hd K hK => ?_) ?_
      · have hI := hJ.inv
        have hF := hJ.F (hJ.hN (by decide) hL)
        have e14 : v 14 = .string s := hF 14 (hd ⟨14, .data⟩ (by simp) rfl)
        clear hF
        clear hd
        go_simp
        refine (CF.out 9 1 _ (by decide) (by decide) (by decide) (by omega)).mono ?_
        rintro e u1 ⟨rfl, hq⟩
        rw [hq]
        exact hK (updV (updV v 14 (.string s)) 15 _) _ (by rw [updV_eq e14]; exact hJ.next 15 _ (by decide) hL hI (fun _ _ h => h) rfl)
      refine Steps.cons rfl (fun L v u hJ hL hd K hK => ?_) ?_
      · have hI := hJ.inv
        clear hd
        go_simp
        exact hK (updV v 16 _) _ (hJ.next 16 _ (by decide) hL hI (fun _ _ h => h) rfl)
      refine Steps.cons rfl (fun L v u hJ hL hd K hK => ?_) ?_
      · have hI := hJ.inv
        have hF := hJ.F (hJ.hN (by decide) hL)
        have e16 : v 16 = .string s := hF 16 (hd ⟨16, .data⟩ (by simp) rfl)
        clear hF
        clear hd
        go_simp
        refine (CF.out 12 4 _ (by decide) (by decide) (by decide) (by omega)).mono ?_
        rintro e u1 ⟨rfl, hq⟩
        rw [hq]
        exact hK (updV (updV v 16 (.string s)) 17 _) _ (by rw [updV_eq e16]; exact hJ.next 17 _ (by decide) hL hI (fun _ _ h => h) rfl)
      refine Steps.cons rfl (fun L v u hJ hL hd K hK => ?_) ?_
      · have hI := hJ.inv
        clear hd
        go_simp
        exact hK (updV v 18 _) _ (hJ.next 18 _ (by decide) hL hI (fun _ _ h => h) rfl)
      refine Steps.cons rfl (fun L v u hJ hL hd K hK => ?_) ?_
      · have hI := hJ.inv
        have hF := hJ.F (hJ.hN (by decide) hL)
        have e18 : v 18 = .string s := hF 18 (hd ⟨18, .data⟩ (by simp) rfl)
        clear hF
        clear hd
        go_simp
        refine (CF.out 16 4 _ (by decide) (by decide) (by decide) (by omega)).mono ?_
        rintro e u1 ⟨rfl, hq⟩
        rw [hq]
        exact hK (updV (updV v 18 (.string s)) 19 _) _ (by rw [updV_eq e18]; exact hJ.next 19 _ (by decide) hL hI (fun _ _ h => h) rfl)
      refine Steps.cons rfl (fun L v u hJ hL hd K hK => ?_) ?_
      · have hI := hJ.inv
        clear hd
        go_simp
        exact hK (updV v 20 _) _ (hJ.next 20 _ (by decide) hL hI (fun _ _ h => h) rfl)
      refine Steps.cons rfl (fun L v u hJ hL hd K hK => ?_) ?_
      · have hI := hJ.inv
        clear hd
        go_simp
        exact hK (updV v 21 _) _ (hJ.next 21 _ (by decide) hL hI (fun _ _ h => h) rfl)
      refine Steps.cons rfl (fun L v u hJ hL hd K hK => ?_) ?_
      · have hI := hJ.inv
        have hF := hJ.F (hJ.hN (by decide) hL)
        have e20 : v 20 = .string s := hF 20 (hd ⟨20, .data⟩ (by simp) rfl)
        have e21 : v 21 = .int .i64 (hdr s : Int) := hF 21 (hd ⟨21, .data⟩ (by simp) rfl)
        clear hF
        clear hd
        have p1 : (20 : Int) ≤ (hdr s : Int) := by omega
        have p2 : (hdr s : Int) ≤ (s.size : Int) := by omega
        go_simp
        exact hK (updV (updV (updV v 20 (.string s)) 21 (.int .i64 (hdr s : Int))) 22 _) _ (by rw [updV_eq e20, updV_eq e21]; exact hJ.next 22 _ (by decide) hL hI (fun _ _ h => h) rfl)
      refine Steps.cons rfl (fun L v u hJ hL hd K hK => ?_) ?_
      · have hI := hJ.inv
        have hF := hJ.F (hJ.hN (by decide) hL)
        have e22 : v 22 = .string (s.extract 20 (hdr s)) := hF 22 (hd ⟨22, .data⟩ (by simp) rfl)
        clear hF
        clear hd
        go_simp
        refine (CC1.out _).mono ?_
        rintro e u1 ⟨rfl, hb⟩
        exact hK (updV (updV v 22 (.string (s.extract 20 (hdr s)))) 23 _) _ (by rw [updV_eq e22]; exact hJ.next 23 _ (by decide) hL (hI.trans (hb.mono hI.size)) (rdF_same hb) rfl)
      refine Steps.cons rfl (fun L v u hJ hL hd K hK => ?_) ?_
      · have hI := hJ.inv
        clear hd
        go_simp
        exact hK (updV v 24 _) _ (hJ.next 24 _ (by decide) hL hI (fun _ _ h => h) rfl)
      refine Steps.cons rfl (fun L v u hJ hL hd K hK => ?_) ?_
      · have hI := hJ.inv
        clear hd
        go_simp
        exact hK (updV v 25 _) _ (hJ.next 25 _ (by decide) hL hI (fun _ _ h => h) rfl)
      refine Steps.cons rfl (fun L v u hJ hL hd K hK => ?_) ?_
      · have hI := hJ.inv
        have hF := hJ.F (hJ.hN (by decide) hL)
        have e24 : v 24 = .string s := hF 24 (hd ⟨24, .data⟩ (by simp) rfl)
        have e25 : v 25 = .int .i64 (hdr s : Int) := hF 25 (hd ⟨25, .data⟩ (by simp) rfl)
        clear hF
        clear hd
        have p1 : (20 : Int) ≤ (hdr s : Int) := by omega
        have p2 : (hdr s : Int) ≤ (s.size : Int) := by omega
        go_simp
        exact hK (updV (updV (updV v 24 (.string s)) 25 (.int .i64 (hdr s : Int))) 26 _) _ (by rw [updV_eq e24, updV_eq e25]; exact hJ.next 26 _ (by decide) hL hI (fun _ _ h => h) rfl)
      refine Steps.cons rfl (fun L v u hJ hL hd K hK => ?_) ?_
      · have hI := hJ.inv
        have hF := hJ.F (hJ.hN (by decide) hL)
        have e26 : v 26 = .string (s.extract (hdr s) s.size) := hF 26 (hd ⟨26, .data⟩ (by simp) rfl)
        clear hF
        clear hd
        go_simp
        refine (CC2.out _).mono ?_
        rintro e u1 ⟨rfl, hb⟩
        exact hK (updV (updV v 26 (.string (s.extract (hdr s) s.size))) 27 _) _ (by rw [updV_eq e26]; exact hJ.next 27 _ (by decide) hL (hI.trans (hb.mono hI.size)) (rdF_same hb) rfl)
      refine Steps.cons rfl (fun L v u hJ hL hd K hK => ?_) ?_
      · have hI := hJ.inv
        have hF := hJ.F (hJ.hN (by decide) hL)
        have e1 : v 1 = .int .i64 (fld s 1 1) := hF 1 (hd ⟨1, .data⟩ (by simp) rfl)
        have e3 : v 3 = .int .i64 (fld s 4 2) := hF 3 (hd ⟨3, .data⟩ (by simp) rfl)
        have e6 : v 6 = .bool (anD s 16384 != 0) := hF 6 (hd ⟨6, .data⟩ (by simp) rfl)
        have e9 : v 9 = .bool (anD s 8192 != 0) := hF 9 (hd ⟨9, .data⟩ (by simp) rfl)
        have e11 : v 11 = .int .i64 (anD s 8191) := hF 11 (hd ⟨11, .data⟩ (by simp) rfl)
        have e13 : v 13 = .int .i64 (fld s 8 1) := hF 13 (hd ⟨13, .data⟩ (by simp) rfl)
        have e15 : v 15 = .int .i64 (fld s 9 1) := hF 15 (hd ⟨15, .data⟩ (by simp) rfl)
        have e17 : v 17 = .int .i64 (fld s 12 4) := hF 17 (hd ⟨17, .data⟩ (by simp) rfl)
        have e19 : v 19 = .int .i64 (fld s 16 4) := hF 19 (hd ⟨19, .data⟩ (by simp) rfl)
        have e23 : v 23 = .string (s.extract 20 (hdr s)) := hF 23 (hd ⟨23, .data⟩ (by simp) rfl)
        have e27 : v 27 = .string (s.extract (hdr s) s.size) := hF 27 (hd ⟨27, .data⟩ (by simp) rfl)
        clear hF
        clear hd
        go_simp
        exact hK (updV (updV (updV (updV (updV (updV (updV (updV (updV (updV (updV (updV v 1 (.int .i64 (fld s 1 1))) 3 (.int .i64 (fld s 4 2))) 6 (.bool (anD s 16384 != 0))) 9 (.bool (anD s 8192 != 0))) 11 (.int .i64 (anD s 8191))) 13 (.int .i64 (fld s 8 1))) 15 (.int .i64 (fld s 9 1))) 17 (.int .i64 (fld s 12 4))) 19 (.int .i64 (fld s 16 4))) 23 (.string (s.extract 20 (hdr s)))) 27 (.string (s.extract (hdr s) s.size))) 28 _) _ (by rw [updV_eq e1, updV_eq e3, updV_eq e6, updV_eq e9, updV_eq e11, updV_eq e13, updV_eq e15, updV_eq e17, updV_eq e19, updV_eq e23, updV_eq e27]; exact hJ.next 28 _ (by decide) hL hI (fun _ _ h => h) rfl)
      refine Steps.cons rfl (fun L v u hJ hL hd K hK => ?_) ?_
      · have hI := hJ.inv
        clear hd
        go_simp
        exact hK (updV v 29 _) _ (hJ.next 29 _ (by decide) hL (hI.alloc hI.size _) (rdF_same ((Below.refl _ u).alloc (Nat.le_refl _) _)) ⟨_, rfl, hI.size, Bx.new u _ _, Fx.newR u _ _⟩)
      refine Steps.cons rfl (fun L v u hJ hL hd K hK => ?_) ?_
      · have hI := hJ.inv
        have hF := hJ.F hL
        have e28 : v 28 = .agg (ipR s) := hF 28 (hd ⟨28, .data⟩ (by simp) rfl)
        obtain ⟨g, e29, hg, hG, hFG⟩ := hF 29 (hd ⟨29, .data⟩ (by simp) rfl)
        clear hF
        have e28r := e28
        unfold ipR at e28
        have z0 := hG.2 0 _ rfl
        have z1 := hG.2 1 _ rfl
        have z2 := hG.2 2 _ rfl
        have z3 := hG.2 3 _ rfl
        have z4 := hG.2 4 _ rfl
        have z5 := hG.2 5 _ rfl
        have z6 := hG.2 6 _ rfl
        have z7 := hG.2 7 _ rfl
        have z8 := hG.2 8 _ rfl
        have z9 := hG.2 9 _ rfl
        have z10 := hG.2 10 _ rfl
        have q0 := hFG.2
        go_simp
        have hBs := ((((((((((((Below.refl w1.heap.size u).setCell (p := ⟨g, 0, none⟩) hg (.int .i64 (fld s 1 1))).setCell (p := ⟨g, 1, none⟩) hg (.int .i64 (fld s 4 2))).setCell (p := ⟨g, 2, none⟩) hg (.bool (anD s 16384 != 0))).setCell (p := ⟨g, 3, none⟩) hg (.bool (anD s 8192 != 0))).setCell (p := ⟨g, 4, none⟩) hg (.int .i64 (anD s 8191))).setCell (p := ⟨g, 5, none⟩) hg (.int .i64 (fld s 8 1))).setCell (p := ⟨g, 6, none⟩) hg (.int .i64 (fld s 9 1))).setCell (p := ⟨g, 7, none⟩) hg (.int .i64 (fld s 12 4))).setCell (p := ⟨g, 8, none⟩) hg (.int .i64 (fld s 16 4))).setCell (p := ⟨g, 9, none⟩) hg (.string (s.extract 20 (hdr s)))).setCell (p := ⟨g, 10, none⟩) hg (.string (s.extract (hdr s) s.size)))
        have hGs := (((((((((((hG.put 0 (.int .i64 (fld s 1 1))).put 1 (.int .i64 (fld s 4 2))).put 2 (.bool (anD s 16384 != 0))).put 3 (.bool (anD s 8192 != 0))).put 4 (.int .i64 (anD s 8191))).put 5 (.int .i64 (fld s 8 1))).put 6 (.int .i64 (fld s 9 1))).put 7 (.int .i64 (fld s 12 4))).put 8 (.int .i64 (fld s 16 4))).put 9 (.string (s.extract 20 (hdr s)))).put 10 (.string (s.extract (hdr s) s.size)))
        have hFs := (((((((((((hFG.put ⟨g, 0, none⟩ (.int .i64 (fld s 1 1))).put ⟨g, 1, none⟩ (.int .i64 (fld s 4 2))).put ⟨g, 2, none⟩ (.bool (anD s 16384 != 0))).put ⟨g, 3, none⟩ (.bool (anD s 8192 != 0))).put ⟨g, 4, none⟩ (.int .i64 (anD s 8191))).put ⟨g, 5, none⟩ (.int .i64 (fld s 8 1))).put ⟨g, 6, none⟩ (.int .i64 (fld s 9 1))).put ⟨g, 7, none⟩ (.int .i64 (fld s 12 4))).put ⟨g, 8, none⟩ (.int .i64 (fld s 16 4))).put ⟨g, 9, none⟩ (.string (s.extract 20 (hdr s)))).put ⟨g, 10, none⟩ (.string (s.extract (hdr s) s.size)))
        refine hK (updV (updV v 28 (.agg (ipR s))) 29 (.pointer (some ⟨g, 0, none⟩))) _ ?_
        rw [updV_eq (v := updV v 28 _) (by rw [updV_eq e28r]; exact e29), updV_eq e28r]
        refine QJ.last (hI.trans hBs) (fun j hj => ?_) ⟨g, e29, hg, hGs, hFs⟩
        have hjs : j ∈ List.range 30 := by simpa using hj
        have hall : ∀ j ∈ List.range 30, L j = true := by
          simp only [List.range_succ, List.range_zero, List.nil_append, List.mem_append, List.mem_singleton]
          rintro j hj
          repeat (first | (rcases hj with hj | rfl; rotate_left; exact hd ⟨_, .phase⟩ (by simp) rfl) | (subst hj; exact hd ⟨_, .phase⟩ (by simp) rfl))
        exact hall j hjs
      exact Steps.nil
    case refine_3 =>
      intro L v u hJ hL
      obtain ⟨g, eg, hg, hG, hFG⟩ := hJ.E (hL 30 (by decide))
      have hB5 := hB.trans (hJ.inv.mono hB.size)
      have h8s : s.size ≤ 1099511627776 := hs
      have hipE : ipR s = ipL (ipV s) := ipR_eq s h20
      have hfb := fld_bd2 s 6
      have CI : Hid (∀ u : World, Calls Tryd.prog 26 #[.agg (ipR s)] u fun e w' => e = .returned (.bool (ipOk (ipV s))) ∧ Below u.heap.size u w') := fun u => by
        rw [hipE]
        exact i_IpOk (ipV s) u (by show (s.extract 20 (hdr s)).size ≤ _; rw [ByteArray.size_extract]; omega) (by show (s.extract (hdr s) s.size).size ≤ _; rw [ByteArray.size_extract]; omega)
      have HI : Hid (ipL (ipV s) = ipR s) := hipE.symm
      have hand : (anD s 32768 != 0) = decide (fld s 6 2 / 32768 % 2 = 1) := anD_bit s 15 (by decide)
      have hhi : (anD s 32768 != 0) = decide (32768 ≤ fld s 6 2) := by rw [hand]; exact decide_eq_decide.2 (by omega)
      have hanD : bits BinOp.and IntKind.i64 (fld s 6 2) 32768 = anD s 32768 := rfl
      have HC : Hid ((if ipOk (ipV s) = false ∨ 32768 ≤ fld s 6 2 then (5 : Int) else 0) = ipCode s) := by
        have := h0
        unfold mhCode at this
        show _ = _
        unfold ipCode
        split at this
        · cases this
        · split at this
          · cases this
          · split at this
            · cases this
            · split at this
              · cases this
              · rename_i k1 k2 k3 k4
                rw [if_neg k1, if_neg k2, if_neg k3, if_neg k4]
      clear hipE hand hfb
      replace hR0 := hR0.below hJ.inv
      replace hF0 := hF0.belowR hJ.inv
      have hq := hE.cell 5 (by decide) (by decide)
      have hE5 := (hB5.cell (p := ⟨errG 5, 0, none⟩) (lt_of_cell hq)).trans hq
      have hg5 : errG 5 < w.heap.size := lt_of_cell hq
      have hn5 : ¬ (w.heap.size = errG 5) := by omega
      have hn6 : ¬ (errG 5 = w.heap.size) := by omega
      simp only [errG] at hn5 hn6
      clear hJ hL hq hE
      have hsz : w.heap.size < w1.heap.size := hs1
      have x0 := hG.2 0 _ rfl; have x1 := hG.2 1 _ rfl; have x2 := hG.2 2 _ rfl; have x3 := hG.2 3 _ rfl; have x4 := hG.2 4 _ rfl; have x5 := hG.2 5 _ rfl; have x6 := hG.2 6 _ rfl; have x7 := hG.2 7 _ rfl; have x8 := hG.2 8 _ rfl; have x9 := hG.2 9 _ rfl; have x10 := hG.2 10 _ rfl
      go_wp2_with fail
      go_at_call 26
      refine (CI.out _).mono ?_
      rintro e w6 ⟨rfl, hb⟩
      replace hG := hG.below hb
      replace hR0 := hR0.below hb
      replace hF0 := hF0.belowR hb
      replace hB5 := hB5.trans (hb.mono hB5.size)
      have hE6 := (hb.cell (p := ⟨errG 5, 0, none⟩) (lt_of_cell hE5)).trans hE5
      simp only [errG] at hE6
      clear hb hE5 CI x0 x1 x2 x3 x4 x5 x6 x7 x8 x9 x10
      have x0 := hG.2 0 _ rfl; have x1 := hG.2 1 _ rfl; have x2 := hG.2 2 _ rfl; have x3 := hG.2 3 _ rfl; have x4 := hG.2 4 _ rfl; have x5 := hG.2 5 _ rfl; have x6 := hG.2 6 _ rfl; have x7 := hG.2 7 _ rfl; have x8 := hG.2 8 _ rfl; have x9 := hG.2 9 _ rfl; have x10 := hG.2 10 _ rfl
      have r0 := hR0.2 0 _ rfl; have r1 := hR0.2 1 _ rfl; have r2 := hR0.2 2 _ rfl; have r3 := hR0.2 3 _ rfl; have r4 := hR0.2 4 _ rfl; have r5 := hR0.2 5 _ rfl; have r6 := hR0.2 6 _ rfl; have r7 := hR0.2 7 _ rfl; have r8 := hR0.2 8 _ rfl; have r9 := hR0.2 9 _ rfl; have r10 := hR0.2 10 _ rfl; have f0 := hF0.2
      have hne1 : ¬ (g = w.heap.size) := by omega
      have hne2 : ¬ (w.heap.size = g) := by omega
      cases hok : ipOk (ipV s)
      · have HRES : Hid (ipCode s = 5 ∧ readIp s = ip0) := by
          have hC5 : ipCode s = 5 := by rw [← HC.out, if_pos (.inl hok)]
          exact ⟨hC5, by unfold readIp; rw [if_neg (by rw [hC5]; decide)]⟩
        clear HC HI
        go_wp2_with fail
        go_region
        all_goals
          go_wp2
          refine bodyPost_ret (v := .tuple #[.agg #[.int .i64 0, .int .i64 0, .bool false, .bool false, .int .i64 0, .int .i64 0, .int .i64 0, .int .i64 0, .int .i64 0, .string ⟨#[]⟩, .string ⟨#[]⟩], .iface 150 (.pointer (some (A 5)))]) ?_ rfl ⟨by rw [HRES.out.1, HRES.out.2]; rfl, ?_⟩
          · simp [results, Tryd.results58, go_sem, r0, r1, r2, r3, r4, r5, r6, r7, r8, r9, r10]
          · go_grown
      · cases hh : decide (32768 ≤ fld s 6 2)
        · have HRES : Hid (ipCode s = 0 ∧ ipL (readIp s) = ipR s) := by
            have hC5 : ipCode s = 0 := by rw [← HC.out, if_neg (by rw [hok]; simpa using hh)]
            exact ⟨hC5, by unfold readIp; rw [if_pos hC5]; exact HI.out⟩
          rw [hh] at hhi
          clear HC HI hh
          go_wp2
          refine bodyPost_ret (v := .tuple #[.agg (ipR s), .nilIface]) ?_ rfl ⟨by rw [HRES.out.1, HRES.out.2]; rfl, ?_⟩
          · simp [results, Tryd.results58, go_sem, r0, r1, r2, r3, r4, r5, r6, r7, r8, r9, r10, ipR]
          · go_grown
        · have HRES : Hid (ipCode s = 5 ∧ readIp s = ip0) := by
            have hC5 : ipCode s = 5 := by rw [← HC.out, if_pos (.inr (by simpa using hh))]
            exact ⟨hC5, by unfold readIp; rw [if_neg (by rw [hC5]; decide)]⟩
          rw [hh] at hhi
          clear HC HI hh
          go_wp2_with fail
          go_region
          all_goals
            go_wp2
            refine bodyPost_ret (v := .tuple #[.agg #[.int .i64 0, .int .i64 0, .bool false, .bool false, .int .i64 0, .int .i64 0, .int .i64 0, .int .i64 0, .int .i64 0, .string ⟨#[]⟩, .string ⟨#[]⟩], .iface 150 (.pointer (some (A 5)))]) ?_ rfl ⟨by rw [HRES.out.1, HRES.out.2]; rfl, ?_⟩
            · simp [results, Tryd.results58, go_sem, r0, r1, r2, r3, r4, r5, r6, r7, r8, r9, r10]
            · go_grown
  · obtain ⟨hc, hr⟩ := mh_code h0
    have HRES : Hid (errV A (ipCode s).toNat = errV A (mhCode s) ∧ ipL (readIp s) = ipL ip0) := ⟨by rw [hc]; rfl, by rw [hr]⟩
    have hmz : mhSize s = 0 := by unfold mhSize; rw [if_neg h0]
    obtain ⟨m, hm⟩ : ∃ m, mhCode s = m + 1 := ⟨mhCode s - 1, by omega⟩
    rw [hm, hmz] at CM
    rw [hm] at HRES
    clear hc hr h0 hmz hm CF hE
    have hif : Tryd.prog.isIface 61 = true := by kernel_rfl
    go_enter Tryd.func58, Tryd.ntmps58
    go_wp2_with fail
    go_at_call 91
    refine (CM.out _ hb0).mono ?_
    rintro e w1 ⟨rfl, hb⟩
    have hB := hb0.trans (hb.mono hb0.size)
    replace hR0 := hR0.below hb
    replace hF0 := hF0.belowR hb
    clear hb CM hb0
    have r0 := hR0.2 0 _ rfl; have r1 := hR0.2 1 _ rfl; have r2 := hR0.2 2 _ rfl; have r3 := hR0.2 3 _ rfl; have r4 := hR0.2 4 _ rfl; have r5 := hR0.2 5 _ rfl; have r6 := hR0.2 6 _ rfl; have r7 := hR0.2 7 _ rfl; have r8 := hR0.2 8 _ rfl; have r9 := hR0.2 9 _ rfl; have r10 := hR0.2 10 _ rfl; have f0 := hF0.2
    simp only [errV]
    go_wp2
    refine bodyPost_ret (v := .tuple #[.agg #[.int .i64 0, .int .i64 0, .bool false, .bool false, .int .i64 0, .int .i64 0, .int .i64 0, .int .i64 0, .int .i64 0, .string ⟨#[]⟩, .string ⟨#[]⟩], .iface 150 (.pointer (some (A (m + 1))))]) ?_ rfl ⟨by rw [HRES.out.1, HRES.out.2]; rfl, ?_⟩
    · simp [results, Tryd.results58, go_sem, r0, r1, r2, r3, r4, r5, r6, r7, r8, r9, r10]
    · go_grown
end Go.Proofs.YtgknkhhoelgnhaaDoor

