/-
  A text with one byte changed.
-/
import Derived.Test.YtgknkhhoelgnhaaDoorLawBase
import Derived.Test.YtgknkhhoelgnhaaDoorStrs
import Derived.Deep.RegionWith
namespace Go.Proofs.YtgknkhhoelgnhaaDoor
open Go.RowKit Go.PlainAid
/-- bytes of a text, as a new row -/
theorem wpList_tobytes {w : World} {ops : Array Oper} {rest : List Oper} {o : Oper} {a : Act} {Q : Exit → Act → World → Prop} (hgd : o.guard = none) (x : Operand)
    (ho : o.op = .convert 9 29 x) (s : ByteArray) (hs : a.eval x = .string s)
    (h : ∀ cap w', (∀ j c, (bl s)[j]? = some c → w'.cell? ⟨w.heap.size, j, none⟩ = some (.int .u8 (c.toNat : Int))) → (∀ j, j < s.size → w'.frozen? ⟨w.heap.size, j, none⟩ = false) → Below w.heap.size w w' → w.heap.size < w'.heap.size →
      wpList Tryd.prog ops Q rest (a.put o.dst (.slice (some ⟨w.heap.size, 0, none⟩) s.size cap)) w') : wpList Tryd.prog ops Q (o :: rest) a w := by
  refine wpList_plain hgd fun K hK' => ?_
  unfold Oper.wp execOp
  simp [ho, hs, run_bytes_of_string w _ _ _ s Tryd.underlying9 Tryd.underlying29 Tryd.underlying5, Result.andThen]
  have hsz : s.data.size = s.size := rfl
  refine hK' _ _ (h _ _ ?_ ?_ ?_ ?_)
  · intro j c hj
    have hj2 : j < s.data.size := by
      have := (List.getElem?_eq_some_iff.1 hj).1
      simpa using this
    have e := World.cell?_alloc_mark w.drew (bytesRow s (grownCap w s.size 0 5)) 5 ((bytesRow s (grownCap w s.size 0 5)).size, (bytesRow s (grownCap w s.size 0 5)).size + 1) j
    refine e.trans ?_
    rw [bytesRow_at s _ j hj2]
    have : s.data[j] = c := by
      have h2 := List.getElem?_eq_some_iff.1 hj
      obtain ⟨_, h2⟩ := h2
      simpa using h2
    rw [this]
  · intro j hj
    refine (World.frozen?_alloc_mark w.drew _ _ _ _ j).trans ?_
    have : j < (bytesRow s (grownCap w s.size 0 5)).size := by simp [bytesRow, hsz]; omega
    simp; omega
  · exact ((Below.refl _ w).drew).alloc (Nat.le_refl _) _
  · simp
theorem wpList_text {w : World} {ops : Array Oper} {rest : List Oper} {o : Oper} {a : Act} {Q : Exit → Act → World → Prop} (hgd : o.guard = none) (x : Operand)
    (ho : o.op = .convert 29 9 x) (g n cap : Nat) (l : List UInt8) (hn : n = l.length) (hs : a.eval x = .slice (some ⟨g, 0, none⟩) n cap) (hc : ∀ j c, l[j]? = some c → w.cell? ⟨g, j, none⟩ = some (.int .u8 (c.toNat : Int)))
    (h : wpList Tryd.prog ops Q rest (a.put o.dst (.string (str l))) w) : wpList Tryd.prog ops Q (o :: rest) a w := by
  subst hn
  refine wpList_plain hgd fun K hK' => ?_
  unfold Oper.wp execOp
  have e : ∀ j, (⟨g, 0, none⟩ : Addr).add j = ⟨g, j, none⟩ := fun j => by unfold Addr.add; split <;> simp_all
  have hr := run_convert_bytes_back (P := Tryd.prog) w 29 9 5 ⟨g, 0, none⟩ cap l Tryd.underlying29 Tryd.underlying5 Tryd.underlying9 (fun j hj => by rw [e]; exact hc j _ (List.getElem?_eq_getElem hj))
  simp [ho, hs, hr, Result.andThen]
  exact hK' _ _ h
theorem bits_xor_u8 (a b : Nat) (ha : a < 256) (hb : b < 256) : bits .xor .u8 (a : Int) (b : Int) = ((a ^^^ b : Nat) : Int) := by
  simp only [bits, BitVec.ofInt_natCast, BitVec.toNat_xor, BitVec.toNat_ofNat]
  have q1 : a % 2 ^ IntKind.bits .u8 = a := Nat.mod_eq_of_lt (Nat.lt_of_lt_of_le ha (by decide))
  have q2 : b % 2 ^ IntKind.bits .u8 = b := Nat.mod_eq_of_lt (Nat.lt_of_lt_of_le hb (by decide))
  rw [q1, q2]
  have := Nat.xor_lt_two_pow (n := 8) ha hb
  rw [IntKind.wrap_u8]; omega
theorem xor_other {c x : Int} (h0 : 0 ≤ c) (h1 : c ≤ 255) (_hx : 0 ≤ x) : 0 ≤ bits .xor .u8 c (1 + x % 255) ∧ bits .xor .u8 c (1 + x % 255) ≤ 255 ∧ bits .xor .u8 c (1 + x % 255) ≠ c := by
  obtain ⟨A, rfl⟩ := Int.eq_ofNat_of_zero_le h0
  obtain ⟨D, hD⟩ : ∃ D : Nat, 1 + x % 255 = (D : Int) := ⟨(1 + x % 255).toNat, by omega⟩
  rw [hD, bits_xor_u8 A D (by omega) (by omega)]
  have h2 := Nat.xor_lt_two_pow (n := 8) (show A < 2 ^ 8 by omega) (show D < 2 ^ 8 by omega)
  have h3 : A ^^^ D ≠ A := fun e => by
    have : A ^^^ (A ^^^ D) = A ^^^ A := by rw [e]
    rw [← Nat.xor_assoc, Nat.xor_self, Nat.zero_xor] at this
    omega
  omega
set_option maxRecDepth 100000 in
set_option maxHeartbeats 1600000 in
theorem l_turned (B : Nat) (C : Option Addr) (len cap : Nat) (s : ByteArray) (i : Nat) (w : World) (hi : i < s.size) (_hs : s.size ≤ 1099511627776) (h : Code w B C len) :
    Calls Tryd.prog 28 #[.string s, .int .i64 (i : Int), .slice C len cap] w fun e w' => ∃ c : UInt8, (bl s)[i]? ≠ some c ∧ e = .returned (.string (str ((bl s).set i c))) ∧ Below w.heap.size w w' := by
  have hi' : i < (bl s).length := by rw [bl_length]; exact hi
  obtain ⟨c0, hc0⟩ : ∃ c0, (bl s)[i]? = some c0 := ⟨_, List.getElem?_eq_getElem hi'⟩
  have hb0 := c0.toNat_lt
  have hlt : (i : Int) < (s.size : Int) := by omega
  go_enter Tryd.func28, Tryd.ntmps28
  go_wp2_with (refine wpList_tobytes rfl _ rfl s rfl ?_; intro cp w1 hcell hfr hb1 hs1)
  have hC1 := h.below (hb1.mono h.2.1)
  have k0 := hcell i c0 hc0
  have f0 := hfr i hi
  go_region_with ((go_at_call 66; refine (l_byteOf B C len cap 3 _ (by omega) (by exact hC1)).mono ?_; rintro e w2 ⟨x, rfl, hx0, hx1, hw2⟩; rw [hw2]; clear hw2 w2))
  all_goals
    have hi2 : i < s.data.size := hi
    have e1 : IntKind.u8.wrap (IntKind.i64.wrap (1 + x.tmod 255)) = 1 + x % 255 := by rw [Int.tmod_eq_emod_of_nonneg hx0, IntKind.wrap_i64, IntKind.wrap_u8]; omega
    have hxo := xor_other (c := ((s.data[i]'hi2).toNat : Int)) (x := x) (by omega) (by have := (s.data[i]'hi2).toNat_lt; omega) hx0
    rw [← e1] at hxo
    clear e1
    generalize bits .xor .u8 ((s.data[i]'hi2).toNat : Int) (IntKind.u8.wrap (IntKind.i64.wrap (1 + x.tmod 255))) = V at *
    obtain ⟨v0, v1, v2⟩ := hxo
    obtain ⟨N, rfl⟩ := Int.eq_ofNat_of_zero_le v0
    have hN : (UInt8.ofNat N).toNat = N := by simp [UInt8.toNat_ofNat']; omega
    have hset : ∀ j c', ((bl s).set i (UInt8.ofNat N))[j]? = some c' → (w1.setCell ⟨w.heap.size, i, none⟩ (.int .u8 (N : Int))).cell? ⟨w.heap.size, j, none⟩ = some (.int .u8 (c'.toNat : Int)) := by
      intro j c' hj
      rw [List.getElem?_set] at hj
      by_cases e : i = j
      · subst e
        rw [if_pos rfl, if_pos hi'] at hj
        cases hj
        rw [hN]
        exact World.cell?_setCell_same _ _ _ k0
      · rw [if_neg e] at hj
        exact (World.cell?_setCell_other _ _ _ _ (fun k => e (congrArg Addr.off k))).trans (hcell j c' hj)
    have hB2 : Below w.heap.size w (w1.setCell ⟨w.heap.size, i, none⟩ (.int .u8 (N : Int))).drew := (hb1.setCell (p := ⟨w.heap.size, i, none⟩) (Nat.le_refl _) _).drew
    have HN : Hid ((bl s)[i]? ≠ some (UInt8.ofNat N)) := by
      show _ ≠ _
      rw [List.getElem?_eq_getElem hi']
      intro e
      have e2 : (bl s)[i] = UInt8.ofNat N := Option.some.inj e
      apply v2
      have e3 : s.data[i] = UInt8.ofNat N := by simpa using e2
      rw [e3, hN]
    have HS : Hid (∀ j c', ((bl s).set i (UInt8.ofNat N))[j]? = some c' → (w1.setCell ⟨w.heap.size, i, none⟩ (.int .u8 (N : Int))).cell? ⟨w.heap.size, j, none⟩ = some (.int .u8 (c'.toNat : Int))) := hset
    have HL : Hid (s.size = ((bl s).set i (UInt8.ofNat N)).length) := by show _ = _; rw [List.length_set, bl_length]
    clear hset hcell hfr k0 f0 v2
    go_wp2_with (refine wpList_text rfl _ rfl w.heap.size s.size cp ((bl s).set i (UInt8.ofNat N)) HL.out rfl (by exact HS.out) ?_)
    go_ret
    exact ⟨UInt8.ofNat N, HN.out, rfl, hB2⟩
end Go.Proofs.YtgknkhhoelgnhaaDoor
