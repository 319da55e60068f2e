/-
  Addresses read from texts: the model's ReadAddr.
-/
import Derived.Test.YtgknkhhoelgnhaaDoorAdr4
import Derived.Test.YtgknkhhoelgnhaaDoorAdr6
namespace Go.Proofs.YtgknkhhoelgnhaaDoor
open Go.RowKit Go.PlainAid
theorem and_255z (x : Int) : bits .and .i64 x 255 = x % 256 := by
  simp only [bits, BitVec.toNat_and]
  have e1 : (BitVec.ofInt (IntKind.bits .i64) 255).toNat = 2 ^ 8 - 1 := by decide
  rw [e1, Nat.and_two_pow_sub_one_eq_mod]
  have e2 : ((BitVec.ofInt (IntKind.bits .i64) x).toNat : Int) = x % 18446744073709551616 := by
    rw [BitVec.toNat_ofInt]
    have : IntKind.bits .i64 = 64 := rfl
    rw [this]
    simp only [Nat.reducePow]
    omega
  rw [IntKind.wrap_i64]
  omega
/-- whatever is read of a text; a byte's numeral gives that byte -/
theorem s_NumAny (s : ByteArray) (w : World) (hs : s.size ≤ 1099511627776) :
    Calls Tryd.prog 39 #[.string s] w fun e w' => ∃ (k : Int) (ok : Bool), e = .returned (.tuple #[.int .i64 k, .bool ok]) ∧ (∀ m : Nat, m < 256 → bl s = Lib.decDigits m → k = (m : Int)) ∧ w' = w := by
  by_cases hneg : 1 < s.size ∧ (bl s)[0]? = some 45 ∧ (bl s)[1]? ≠ some 48 ∧ (bl s)[1]? ≠ some 45
  · obtain ⟨h1, g0, g48, g45⟩ := hneg
    have h0 : 0 < s.size := by omega
    have hbl := bl_length s
    have hst : (s.extract 1 s.size).size = s.size - 1 := by rw [ByteArray.size_extract]; omega
    have hbe : bl (s.extract 1 s.size) = (bl s).drop 1 := by
      have := str_extract (bl s) 1 s.size
      rw [str_bl] at this
      rw [this, List.take_of_length_le (by rw [List.length_drop]; omega)]
    have C0 : Hid (∀ u : World, Calls Tryd.prog 39 #[.string (s.extract 1 s.size)] u fun e w' => e = .returned (numV (bl (s.extract 1 s.size))) ∧ w' = u) := fun u => s_Num0 _ u (by omega) (by
      rintro ⟨_, a, _⟩
      rw [hbe, List.getElem?_drop] at a
      exact g45 a)
    have x0 : (((s[0]'h0).toNat : Nat) : Int) = 45 := by
      have : (bl s)[0]? = some (s[0]'h0) := by rw [List.getElem?_eq_getElem (by omega)]; rfl
      rw [this] at g0
      rw [Option.some.inj g0]; rfl
    have y1 : (bl s)[1]? = some (s[1]'h1) := by rw [List.getElem?_eq_getElem (by omega)]; rfl
    have x1 : ((((s[1]'h1).toNat : Nat) : Int) != 48) = true := by
      rw [y1] at g48
      have : (s[1]'h1).toNat ≠ 48 := fun e => g48 (congrArg some (UInt8.toNat.inj (by rw [e]; rfl)))
      simp; omega
    have x2 : ((((s[1]'h1).toNat : Nat) : Int) != 45) = true := by
      rw [y1] at g45
      have : (s[1]'h1).toNat ≠ 45 := fun e => g45 (congrArg some (UInt8.toNat.inj (by rw [e]; rfl)))
      simp; omega
    have HX : Hid (∀ m : Nat, m < 256 → bl s ≠ Lib.decDigits m) := fun m hm e => (num_byte ⟨m, hm⟩).2.2 (by rw [← e]; exact g0)
    unfold numV at C0
    generalize (if numO (bl (s.extract 1 s.size)) then numP (bl (s.extract 1 s.size)) else 0) = K at *
    generalize numO (bl (s.extract 1 s.size)) = O at *
    have hsi : (1 : Int) < (s.size : Int) := by omega
    have hsj : (1 : Int) ≤ (s.size : Int) := by omega
    clear g0 g48 g45 y1 hbe hst hbl
    go_enter Tryd.func39, Tryd.ntmps39
    go_wp2_with fail
    refine (C0.out _).mono ?_
    rintro e wq ⟨rfl, hq⟩
    rw [hq]
    clear hq wq
    go_wp2
    refine bodyPost_ret (v := .tuple #[.int .i64 (wrap64 (-K)), .bool O]) ?_ rfl ⟨_, _, rfl, fun m hm e => absurd e (HX.out m hm), rfl⟩
    simp [results, Tryd.results39, go_sem]
  · refine (s_Num0 s w hs hneg).mono ?_
    rintro e w' ⟨rfl, rfl⟩
    refine ⟨_, _, rfl, fun m hm e => ?_, rfl⟩
    obtain ⟨a, b, _⟩ := num_byte ⟨m, hm⟩
    rw [e, a, if_pos rfl]; exact b
/-- what the model's loop knows of an address's text -/
def adI (l : List UInt8) (j N : Nat) (r : List UInt8) : Prop :=
  ∀ a b c d : Nat, a < 256 → b < 256 → c < 256 → d < 256 → l = Lib.decDigits a ++ 46 :: (Lib.decDigits b ++ 46 :: (Lib.decDigits c ++ 46 :: Lib.decDigits d)) →
    match j with
    | 0 => N = 0 ∧ r = Lib.decDigits a ++ 46 :: (Lib.decDigits b ++ 46 :: (Lib.decDigits c ++ 46 :: Lib.decDigits d))
    | 1 => N = a ∧ r = Lib.decDigits b ++ 46 :: (Lib.decDigits c ++ 46 :: Lib.decDigits d)
    | 2 => N = a * 256 + b ∧ r = Lib.decDigits c ++ 46 :: Lib.decDigits d
    | 3 => N = (a * 256 + b) * 256 + c ∧ r = Lib.decDigits d
    | _ => N = ((a * 256 + b) * 256 + c) * 256 + d
/-- the head and the tail of a cut -/
def cutH (s : ByteArray) : ByteArray := if Lib.indexByte (bl s) 46 = -1 then s else s.extract 0 (Lib.indexByte (bl s) 46).toNat
def cutT (s : ByteArray) : ByteArray := if Lib.indexByte (bl s) 46 = -1 then ⟨#[]⟩ else s.extract ((Lib.indexByte (bl s) 46).toNat + 1) s.size
theorem cutV_eq (s : ByteArray) : ∃ f : Bool, cutV s = .tuple #[.string (cutH s), .string (cutT s), .bool f] := by
  unfold cutV cutH cutT
  split
  · exact ⟨_, rfl⟩
  · exact ⟨_, rfl⟩
theorem cut_size (s : ByteArray) : (cutH s).size ≤ s.size ∧ (cutT s).size ≤ s.size := by
  unfold cutH cutT
  have e0 : (⟨#[]⟩ : ByteArray).size = 0 := rfl
  split
  · omega
  · rw [ByteArray.size_extract, ByteArray.size_extract]; omega
theorem cut_hit {s : ByteArray} {A R : List UInt8} (h : bl s = A ++ 46 :: R) (hA : ∀ c ∈ A, c ≠ 46) : bl (cutH s) = A ∧ bl (cutT s) = R := by
  have hi : Lib.indexByte (bl s) 46 = (A.length : Int) := by rw [h]; exact index_app A R hA
  have hl : (bl s).length = A.length + (R.length + 1) := by rw [h]; simp
  have h1 := str_extract (bl s) 0 A.length
  have h2 := str_extract (bl s) (A.length + 1) s.size
  rw [str_bl] at h1 h2
  rw [bl_length] at hl
  unfold cutH cutT
  rw [h] at h1 h2
  rw [hi, if_neg (by omega), if_neg (by omega), Int.toNat_natCast, h1, h2, bl_str, bl_str]
  refine ⟨?_, ?_⟩
  · rw [List.drop_zero, Nat.sub_zero, List.take_left]
  · have e : (A ++ 46 :: R).drop (A.length + 1) = R := by
      rw [← List.drop_drop, List.drop_left]; rfl
    rw [e, List.take_of_length_le (by omega)]
theorem cut_non {s : ByteArray} {A : List UInt8} (h : bl s = A) (hA : ∀ c ∈ A, c ≠ 46) : bl (cutH s) = A := by
  unfold cutH
  rw [h, index_non A hA, if_pos rfl, h]
theorem adI_next {l : List UInt8} {j N : Nat} {s : ByteArray} {k : Int} (hj : j < 4) (hI : adI l j N (bl s)) (hk : ∀ m : Nat, m < 256 → bl (cutH s) = Lib.decDigits m → k = (m : Int)) :
    adI l (j + 1) (N * 256 + (k % 256).toNat) (bl (cutT s)) := by
  intro a b c d ha hb hc hd hl
  have h := hI a b c d ha hb hc hd hl
  have hj4 : j = 0 ∨ j = 1 ∨ j = 2 ∨ j = 3 := by omega
  rcases hj4 with rfl | rfl | rfl | rfl
  · obtain ⟨h1, h2⟩ := h
    obtain ⟨c1, c2⟩ := cut_hit h2 (dec_nodot ha)
    have := hk a ha c1
    exact ⟨by subst h1; subst this; omega, c2⟩
  · obtain ⟨h1, h2⟩ := h
    obtain ⟨c1, c2⟩ := cut_hit h2 (dec_nodot hb)
    have := hk b hb c1
    exact ⟨by subst h1; subst this; omega, c2⟩
  · obtain ⟨h1, h2⟩ := h
    obtain ⟨c1, c2⟩ := cut_hit h2 (dec_nodot hc)
    have := hk c hc c1
    exact ⟨by subst h1; subst this; omega, c2⟩
  · obtain ⟨h1, h2⟩ := h
    have := hk d hd (cut_non h2 (dec_nodot hd))
    show _ = _
    subst h1; subst this; omega
theorem adI_end {l : List UInt8} {N : Nat} {r : List UInt8} (hI : adI l 4 N r) : ∀ n : Nat, n < 4294967296 → adT n = l → N = n := by
  intro n hn he
  obtain ⟨a, b, c, d, ha, hb, hc, hd, e1, e2⟩ := ad_parts hn
  have := hI a b c d ha hb hc hd (by rw [← he, e2])
  rw [e1]; exact this
set_option maxRecDepth 100000 in
set_option maxHeartbeats 3200000 in
theorem s_ReadAddr (s : ByteArray) (w : World) (hs : s.size ≤ 1099511627776) :
    Calls Tryd.prog 14 #[.string s] w fun e w' => e = .returned (adV (bl s)) ∧ Below w.heap.size w w' := by
  by_cases h15 : 15 < s.size
  · have HV : Hid (adV (bl s) = .tuple #[.int .i64 0, .bool false]) := by
      show _ = _
      obtain ⟨a, b⟩ := ad_no (l := bl s) (fun n hn e => by have := ad_len hn; rw [e, bl_length] at this; omega)
      unfold adV; rw [a, b]
    have h15i : (15 : Int) < (s.size : Int) := by omega
    go_enter Tryd.func14, Tryd.ntmps14
    go_wp2
    refine bodyPost_ret (v := .tuple #[.int .i64 0, .bool false]) ?_ rfl ⟨by rw [HV.out], Below.refl _ _⟩
    simp [results, Tryd.results14, go_sem]
  · have h15i : ¬ (15 : Int) < (s.size : Int) := by omega
    have CC : Hid (∀ (r : ByteArray) (u : World), r.size ≤ 15 → ∃ f : Bool, Calls Tryd.prog 38 #[.string r, .int .u8 46] u fun e w' => e = .returned (.tuple #[.string (cutH r), .string (cutT r), .bool f]) ∧ Below u.heap.size u w') := fun r u hr => by
      obtain ⟨f, hf⟩ := cutV_eq r
      exact ⟨f, by have := s_Cut46 r u (by omega); rw [hf] at this; exact this⟩
    have CN : Hid (∀ (r : ByteArray) (u : World), r.size ≤ 15 → Calls Tryd.prog 39 #[.string r] u fun e w' => ∃ (k : Int) (ok : Bool), e = .returned (.tuple #[.int .i64 k, .bool ok]) ∧ (∀ m : Nat, m < 256 → bl r = Lib.decDigits m → k = (m : Int)) ∧ w' = u) := fun r u hr => s_NumAny r u (by omega)
    go_enter Tryd.func14, Tryd.ntmps14
    go_wp2
    go_loopw [4, 5, 6] (fun a q i wr => ∃ (j N : Nat) (r : ByteArray), j ≤ 4 ∧ a = .int .i64 (N : Int) ∧ q = .string r ∧ i = .int .i64 (j : Int) ∧ N < 256 ^ j ∧ r.size ≤ 15 ∧ adI (bl s) j N (bl r) ∧ Below w.heap.size w wr) (fun _ _ i _ => ((4 : Int) - intA i).toNat)
    case atStart => exact ⟨0, 0, s, by omega, rfl, rfl, rfl, by decide, by omega, fun a b c d _ _ _ _ h => ⟨rfl, h⟩, Below.refl _ _⟩
    case round =>
      obtain ⟨j, N, r, hj, rfl, rfl, rfl, hN, hr, hI, hB⟩ := hrel
      by_cases hj4 : j < 4
      · have hji : (j : Int) < 4 := by omega
        obtain ⟨f, CC2'⟩ := CC.out r wr hr
        have CC2 : Hid (Calls Tryd.prog 38 #[.string r, .int .u8 46] wr fun e w' => e = .returned (.tuple #[.string (cutH r), .string (cutT r), .bool f]) ∧ Below wr.heap.size wr w') := CC2'
        clear CC2'
        obtain ⟨cs1, cs2⟩ := cut_size r
        have CN2 : Hid (∀ u : World, Calls Tryd.prog 39 #[.string (cutH r)] u fun e w' => ∃ (k : Int) (ok : Bool), e = .returned (.tuple #[.int .i64 k, .bool ok]) ∧ (∀ m : Nat, m < 256 → bl (cutH r) = Lib.decDigits m → k = (m : Int)) ∧ w' = u) := fun u => CN.out _ u (by omega)
        have HI : Hid (adI (bl s) j N (bl r)) := hI
        have HC : Hid (cutT r = cutT r ∧ (cutT r).size ≤ 15) := ⟨rfl, by omega⟩
        clear hI cs1 cs2
        go_wp2_with fail
        refine CC2.out.mono ?_
        rintro e w3 ⟨rfl, hb⟩
        replace hB := hB.trans (hb.mono hB.size)
        clear hb CC2
        go_wp2_with fail
        refine (CN2.out _).mono ?_
        rintro e wq ⟨k, ok, rfl, hk, hq⟩
        rw [hq]
        clear hq wq CN2
        have hI2 := adI_next hj4 HI.out hk
        have HI2 : Hid (adI (bl s) (j + 1) (N * 256 + (k % 256).toNat) (bl (cutT r))) := hI2
        clear hI2 hk HI
        have a1 := and_255z k
        obtain ⟨K, hK⟩ : ∃ K : Nat, k % 256 = (K : Int) := ⟨(k % 256).toNat, by omega⟩
        have hK2 : (k % 256).toNat = K := by omega
        have hK3 : K < 256 := by omega
        rw [hK2] at HI2
        rw [hK] at a1
        have hp4 : 256 ^ j ≤ 16777216 := by
          have : j = 0 ∨ j = 1 ∨ j = 2 ∨ j = 3 := by omega
          rcases this with rfl | rfl | rfl | rfl <;> decide
        have hps : 256 ^ (j + 1) = 256 ^ j * 256 := Nat.pow_succ ..
        have w1' : IntKind.i64.wrap ((N : Int) * 256) = (N : Int) * 256 := wraps_i64 _ (by omega) (by omega)
        have o1 : bits .or .i64 ((N : Int) * 256) (K : Int) = (N : Int) * 256 + (K : Int) := or_8 (by omega) (by omega) (by omega) (by omega)
        clear hK hK2
        generalize cutT r = rt at *
        go_wp2
        go_roundw
        case rel => exact ⟨j + 1, N * 256 + K, rt, by omega, by go_num, rfl, by go_num, by omega, HC.out.2, HI2.out, hB⟩
        case measure => simp [intA]; omega
      · have hj5 : j = 4 := by omega
        subst hj5
        have hE := adI_end hI
        have hN32 : N < 4294967296 := by have : (256 : Nat) ^ 4 = 4294967296 := by decide
                                         omega
        have HA : Hid (∀ u : World, Calls Tryd.prog 12 #[.int .i64 (N : Int)] u fun e w' => e = .returned (.string (str (adText (N : Int)))) ∧ Below u.heap.size u w') := fun u => s_AddrText _ u
        have hT : adText (N : Int) = adT N := by unfold adText; rw [show addrB (N : Int) = true from inB_true (by omega) (by omega), if_pos rfl, Int.toNat_natCast]
        rw [hT] at HA
        clear hI hT
        by_cases he : adT N = bl s
        · have HV : Hid (adV (bl s) = .tuple #[.int .i64 (N : Int), .bool true]) := by
            show _ = _
            obtain ⟨a, b⟩ := ad_yes hN32 he
            unfold adV; rw [a, b]
          have hse : str (adT N) = s := by rw [he, str_bl]
          rw [hse] at HA
          clear he hse hE
          go_wp2_with fail
          refine (HA.out _).mono ?_
          rintro e w3 ⟨rfl, hb⟩
          go_wp2
          refine bodyPost_ret (v := .tuple #[.int .i64 (N : Int), .bool true]) ?_ rfl ⟨by rw [HV.out], hB.trans (hb.mono hB.size)⟩
          simp [results, Tryd.results14, go_sem]
        · have HV : Hid (adV (bl s) = .tuple #[.int .i64 0, .bool false]) := by
            show _ = _
            obtain ⟨a, b⟩ := ad_no (l := bl s) (fun n hn e => he (by rw [hE n hn e]; exact e))
            unfold adV; rw [a, b]
          have hne : ¬ str (adT N) = s := fun e => he (by rw [← e])
          have hq := str_ne hne
          generalize str (adT N) = tt at *
          clear he hne hE
          go_wp2_with fail
          refine (HA.out _).mono ?_
          rintro e w3 ⟨rfl, hb⟩
          go_wp2
          refine bodyPost_ret (v := .tuple #[.int .i64 0, .bool false]) ?_ rfl ⟨by rw [HV.out], hB.trans (hb.mono hB.size)⟩
          simp [results, Tryd.results14, go_sem]
set_option maxRecDepth 100000 in
set_option maxHeartbeats 1600000 in
theorem walk_FnExactReadAddr (s : ByteArray) (hs : s.size ≤ maxLen) (w : World) (hL : LibW w) :
    Calls Tryd.prog 4 #[.string s] w fun e w' => e = .returned (.bool true) ∧ Below w.heap.size w w' := by
  unfold maxLen at hs
  by_cases hz : 1048576 < s.size
  · go_enter Tryd.func4, Tryd.ntmps4
    go_wp2
    go_ret
    exact ⟨rfl, Below.refl _ _⟩
  · have CS : Hid (∀ u : World, Calls Tryd.prog 14 #[.string s] u fun e w' => e = .returned (adV (bl s)) ∧ Below u.heap.size u w') := fun u => s_ReadAddr s u (by omega)
    have CI : Hid (∀ u : World, Below w.heap.size w u → Calls Tryd.prog 15 #[.string s] u fun e w' => e = .returned (adV (bl s)) ∧ Below u.heap.size u w') := fun u hb => i_ReadAddr s u (by omega) (hL.below hb)
    clear hL
    unfold adV at CS CI
    generalize adR (bl s) = N at *
    generalize adB (bl s) = ok at *
    go_enter Tryd.func4, Tryd.ntmps4
    go_wp2_with fail
    refine (CS.out _).mono ?_
    rintro e w1 ⟨rfl, hB⟩
    go_wp2_with fail
    refine (CI.out _ hB).mono ?_
    rintro e w2 ⟨rfl, hb⟩
    go_wp2
    go_ret
    exact ⟨rfl, hB.trans (hb.mono hB.size)⟩
end Go.Proofs.YtgknkhhoelgnhaaDoor
