/-
  The text of an address: the program and the model; the exact law.
-/
import Derived.Test.YtgknkhhoelgnhaaDoorAdr1
import Derived.Test.YtgknkhhoelgnhaaDoorIps1
import Derived.Test.YtgknkhhoelgnhaaDoorRecsV
import Derived.Test.YtgknkhhoelgnhaaDoorShelf
import Derived.Lib.LaidTab
import Derived.Lib.AppendIntMem
namespace Go.Proofs.YtgknkhhoelgnhaaDoor
open Go.RowKit Go.PlainAid
/-- the text of an address -/
def adT (n : Nat) : List UInt8 := Lib.decDigits (n / 16777216) ++ [46] ++ Lib.decDigits (n / 65536 % 256) ++ [46] ++ Lib.decDigits (n / 256 % 256) ++ [46] ++ Lib.decDigits (n % 256)
def adText (n : Int) : List UInt8 := if addrB n then adT n.toNat else []
theorem and_255n (n k : Nat) (hn : n ≤ 4294967295) : bits .and .i64 ((n : Int) / (k : Int)) 255 = ((n / k % 256 : Nat) : Int) := by
  have e : (n : Int) / (k : Int) = ((n / k : Nat) : Int) := by rw [Int.natCast_ediv]
  have h : n / k ≤ n := Nat.div_le_self n k
  rw [e]
  generalize n / k = q at *
  rw [and_255 (by omega) (by omega)]; omega
theorem dec_small (m : Nat) (h : m < 256) : (Lib.decDigits m).length ≤ 21 := dec_len m (by omega)
/-- the table of powers lies there -/
def PowT (w : World) : Prop := Lib.TabIs Tryd.prog w "internal/strconv.uint64pow10" .u64 Lib.pow10Tab
theorem gPow : Tryd.prog.globalNamed "internal/strconv.uint64pow10" = some 5 := by kernel_rfl
theorem PowT.below {w w' : World} (h : PowT w) (hb : Below w.heap.size w w') : PowT w' := by
  have hc := h.cell gPow 0 (by decide)
  unfold PowT Lib.TabIs World.var? at h ⊢
  simp only [gPow, Option.bind_some] at h ⊢
  rw [hb.block _ (lt_of_cell hc)]
  exact h
theorem i_Format (m : Nat) (hm : m ≤ 9223372036854775807) (w : World) (hT : PowT w) :
    Calls Tryd.prog 36 #[.int .i64 (m : Int), .int .i64 10] w fun e w' => e = .returned (.string (str (Lib.decDigits m))) ∧ Below w.heap.size w w' := by
  refine (Tryd.strconv_FormatInt_10 (m : Int) (by omega) (by omega) w hT).mono ?_
  rintro e w' ⟨rfl, k, os, rfl⟩
  rw [Lib.itoa_nonneg]
  exact ⟨rfl, Lib.below_grow _ w (Nat.le_refl _) k os⟩
theorem infoStr : (Tryd.prog.info? 9).map (fun i => (i.zero, i.size, i.bytes)) = some (some (.string ⟨#[]⟩), 1, 16) := by kernel_rfl
/-- append of one text -/
theorem wpList_append_str {w : World} {ops : Array Oper} {rest : List Oper} {o : Oper} {a : Act} {Q : Exit → Act → World → Prop} (hgd : o.guard = none) (s x : Operand)
    (ho : o.op = .call { callee := .builtin .append, args := #[s, x], argTypes := #[43, 43] })
    (B : Nat) (v : Value) (n : Nat) (xs : List Value) (hs : a.eval s = v) (hown : ownV w B 9 1 v n xs) (b c : Nat) (y : ByteArray) (hx : a.eval x = .slice (some ⟨b, 0, none⟩) 1 c) (hy : w.cell? ⟨b, 0, none⟩ = some (.string y))
    (hl : n ≤ 1048576) (hB : B ≤ w.heap.size)
    (h : ∀ v' w', ownV w' B 9 1 v' (n + 1) (xs ++ [.string y]) → Below B w w' → wpList Tryd.prog ops Q rest (a.put o.dst v') w') : wpList Tryd.prog ops Q (o :: rest) a w := by
  obtain ⟨i0, hi0, hz0, hz1, hz2⟩ := info_parts infoStr
  refine wpList_append_own w hgd s x 43 ho B 9 i0 _ 1 16 Tryd.underlying43 hi0 hz0 hz1 hz2 rfl (by decide) v n xs hs hown ⟨b, 0, none⟩ 1 c [.string y] hx rfl ?_ (by simp [Value.oneCell']) (by unfold maxLen; omega) (by omega) hB ?_
  · intro j u hj
    have h0 : j = 0 := by
      have := (List.getElem?_eq_some_iff.1 hj).1
      simp at this; exact this
    subst h0
    simp at hj
    subst hj
    exact hy
  · intro v' w' h2 h3 _
    exact h v' w' h2 ((Below.refl B w).grown h3 hB fun k hk => (World.ownsRow.lt hown k hk).1)
set_option maxRecDepth 100000 in
set_option maxHeartbeats 1600000 in
theorem s_AddrText (n : Int) (w : World) :
    Calls Tryd.prog 12 #[.int .i64 n] w fun e w' => e = .returned (.string (str (adText n))) ∧ Below w.heap.size w w' := by
  cases ha : addrB n
  · have HV : Hid (adText n = []) := by show _ = _; unfold adText; rw [ha]; rfl
    have CA : Hid (∀ u : World, Calls Tryd.prog 33 #[.int .i64 n] u fun e w' => e = .returned (.bool false) ∧ w' = u) := fun u => ha ▸ s_Addr n u
    go_enter Tryd.func12, Tryd.ntmps12
    go_wp2_with (go_at_call 33; refine (CA.out _).mono ?_; rintro e wq ⟨rfl, hq⟩; rw [hq]; clear hq wq)
    go_ret
    exact ⟨by rw [HV.out]; rfl, Below.refl _ _⟩
  · have hr : 0 ≤ n ∧ n ≤ 4294967295 := by have h := ha; unfold addrB inB at h; simpa using h
    obtain ⟨N, rfl⟩ := Int.eq_ofNat_of_zero_le hr.1
    have hN : N ≤ 4294967295 := by omega
    have CA : Hid (∀ u : World, Calls Tryd.prog 33 #[.int .i64 (N : Int)] u fun e w' => e = .returned (.bool true) ∧ w' = u) := fun u => ha ▸ s_Addr _ u
    have HV : Hid (str (adText (N : Int)) = str (Lib.decDigits (N / 16777216)) ++ ⟨#[46]⟩ ++ str (Lib.decDigits (N / 65536 % 256)) ++ ⟨#[46]⟩ ++ str (Lib.decDigits (N / 256 % 256)) ++ ⟨#[46]⟩ ++ str (Lib.decDigits (N % 256))) := by
      show _ = _
      unfold adText adT
      rw [ha, if_pos rfl, Int.toNat_natCast]
      simp only [← str_app]
    have a1 : bits .and .i64 ((N : Int) / 65536) 255 = ((N / 65536 % 256 : Nat) : Int) := and_255n N 65536 hN
    have a2 : bits .and .i64 ((N : Int) / 256) 255 = ((N / 256 % 256 : Nat) : Int) := and_255n N 256 hN
    have a3 : bits .and .i64 (N : Int) 255 = ((N % 256 : Nat) : Int) := by rw [and_255 (by omega) (by omega)]; omega
    have C0 : Hid (∀ u : World, Calls Tryd.prog 34 #[.int .i64 ((N : Int) / 16777216)] u fun e w' => e = .returned (.string (str (Lib.decDigits (N / 16777216)))) ∧ Below u.heap.size u w') := fun u => by
      have := s_Dec (N / 16777216) u (by omega)
      rw [show ((N / 16777216 : Nat) : Int) = (N : Int) / 16777216 by omega] at this; exact this
    have CD : Hid (∀ (m : Nat) (u : World), m < 256 → Calls Tryd.prog 34 #[.int .i64 (m : Int)] u fun e w' => e = .returned (.string (str (Lib.decDigits m))) ∧ Below u.heap.size u w') := fun m u hm => s_Dec m u (by omega)
    have l0 : (Lib.decDigits (N / 16777216)).length ≤ 21 := dec_len _ (by omega)
    have b1 : N / 65536 % 256 < 256 := Nat.mod_lt _ (by decide)
    have b2 : N / 256 % 256 < 256 := Nat.mod_lt _ (by decide)
    have b3 : N % 256 < 256 := Nat.mod_lt _ (by decide)
    generalize N / 65536 % 256 = m1 at *
    generalize N / 256 % 256 = m2 at *
    generalize N % 256 = m3 at *
    have l1 := dec_small m1 b1
    have l2 := dec_small m2 b2
    have l3 := dec_small m3 b3
    have C1 : Hid (∀ u : World, Calls Tryd.prog 34 #[.int .i64 (m1 : Int)] u fun e w' => e = .returned (.string (str (Lib.decDigits m1))) ∧ Below u.heap.size u w') := fun u => CD.out m1 u b1
    have C2 : Hid (∀ u : World, Calls Tryd.prog 34 #[.int .i64 (m2 : Int)] u fun e w' => e = .returned (.string (str (Lib.decDigits m2))) ∧ Below u.heap.size u w') := fun u => CD.out m2 u b2
    have C3 : Hid (∀ u : World, Calls Tryd.prog 34 #[.int .i64 (m3 : Int)] u fun e w' => e = .returned (.string (str (Lib.decDigits m3))) ∧ Below u.heap.size u w') := fun u => CD.out m3 u b3
    generalize Lib.decDigits (N / 16777216) = d0 at *
    generalize Lib.decDigits m1 = d1 at *
    generalize Lib.decDigits m2 = d2 at *
    generalize Lib.decDigits m3 = d3 at *
    clear CD ha
    go_enter Tryd.func12, Tryd.ntmps12
    go_wp2_with fail
    go_at_call 33
    refine (CA.out _).mono ?_
    rintro e wq ⟨rfl, hq⟩
    rw [hq]
    clear hq wq
    go_wp2_with fail
    refine (C0.out _).mono ?_
    rintro e w1 ⟨rfl, hB⟩
    go_wp2_with fail
    refine (C1.out _).mono ?_
    rintro e w2 ⟨rfl, hb⟩
    replace hB := hB.trans (hb.mono hB.size); clear hb
    go_wp2_with fail
    refine (C2.out _).mono ?_
    rintro e w3 ⟨rfl, hb⟩
    replace hB := hB.trans (hb.mono hB.size); clear hb
    go_wp2_with fail
    refine (C3.out _).mono ?_
    rintro e w4 ⟨rfl, hb⟩
    replace hB := hB.trans (hb.mono hB.size); clear hb
    go_wp2
    go_ret
    exact ⟨by rw [HV.out]; rfl, hB⟩
def intE : Value → Int
  | .int _ n => n
  | _ => 0
/-- what has been written of an address: the parts so far -/
def adPs (m0 m1 m2 m3 : Nat) : Nat → List ByteArray
  | 0 => []
  | 1 => [str (Lib.decDigits m0)]
  | 2 => [str (Lib.decDigits m0), str (Lib.decDigits m1)]
  | 3 => [str (Lib.decDigits m0), str (Lib.decDigits m1), str (Lib.decDigits m2)]
  | _ => [str (Lib.decDigits m0), str (Lib.decDigits m1), str (Lib.decDigits m2), str (Lib.decDigits m3)]
set_option maxRecDepth 100000 in
set_option maxHeartbeats 3200000 in
theorem i_AddrText (n : Int) (w : World) (hT : PowT w) :
    Calls Tryd.prog 13 #[.int .i64 n] w fun e w' => e = .returned (.string (str (adText n))) ∧ Below w.heap.size w w' := by
  cases ha : addrB n
  · have HV : Hid (adText n = []) := by show _ = _; unfold adText; rw [ha]; rfl
    have CA : Hid (∀ u : World, Calls Tryd.prog 35 #[.int .i64 n] u fun e w' => e = .returned (.bool false) ∧ w' = u) := fun u => ha ▸ i_isAddr n u
    go_enter Tryd.func13, Tryd.ntmps13
    go_wp2_with (go_at_call 35; refine (CA.out _).mono ?_; rintro e wq ⟨rfl, hq⟩; rw [hq]; clear hq wq)
    go_ret
    exact ⟨by rw [HV.out]; rfl, Below.refl _ _⟩
  · have hr : 0 ≤ n ∧ n ≤ 4294967295 := by have h := ha; unfold addrB inB at h; simpa using h
    obtain ⟨N, rfl⟩ := Int.eq_ofNat_of_zero_le hr.1
    have hN : N ≤ 4294967295 := by omega
    have CA : Hid (∀ u : World, Calls Tryd.prog 35 #[.int .i64 (N : Int)] u fun e w' => e = .returned (.bool true) ∧ w' = u) := fun u => ha ▸ i_isAddr _ u
    have HV : Hid (adText (N : Int) = Lib.join ((adPs (N / 16777216) (N / 65536 % 256) (N / 256 % 256) (N % 256) 4).map (·.data.toList)) [46]) := by
      show _ = _
      unfold adText adT
      rw [ha, if_pos rfl, Int.toNat_natCast]
      simp [adPs, Lib.join, List.intercalate]
    have a0 : bits .and .i64 ((N : Int) / 16777216) 255 = ((N / 16777216 : Nat) : Int) := by
      have := and_255n N 16777216 hN
      rw [Nat.mod_eq_of_lt (by omega)] at this; exact this
    have a1 : bits .and .i64 ((N : Int) / 65536) 255 = ((N / 65536 % 256 : Nat) : Int) := and_255n N 65536 hN
    have a2 : bits .and .i64 ((N : Int) / 256) 255 = ((N / 256 % 256 : Nat) : Int) := and_255n N 256 hN
    have a3 : bits .and .i64 (N : Int) 255 = ((N % 256 : Nat) : Int) := by rw [and_255 (by omega) (by omega)]; omega
    have CF : Hid (∀ (m : Nat) (u : World), Below w.heap.size w u → m < 256 → Calls Tryd.prog 36 #[.int .i64 (m : Int), .int .i64 10] u fun e w' => e = .returned (.string (str (Lib.decDigits m))) ∧ Below u.heap.size u w') := fun m u hb hm => i_Format m (by omega) u (hT.below hb)
    have b0 : N / 16777216 < 256 := by omega
    have b1 : N / 65536 % 256 < 256 := Nat.mod_lt _ (by decide)
    have b2 : N / 256 % 256 < 256 := Nat.mod_lt _ (by decide)
    have b3 : N % 256 < 256 := Nat.mod_lt _ (by decide)
    generalize N / 16777216 = m0 at *
    generalize N / 65536 % 256 = m1 at *
    generalize N / 256 % 256 = m2 at *
    generalize N % 256 = m3 at *
    have hlen : (Lib.join ((adPs m0 m1 m2 m3 4).map (·.data.toList)) [46]).length ≤ 1000 := by
      have l0 := dec_small m0 b0
      have l1 := dec_small m1 b1
      have l2 := dec_small m2 b2
      have l3 := dec_small m3 b3
      simp [adPs, Lib.join, List.intercalate]; omega
    have F0 : Hid (∀ u : World, Below w.heap.size w u → Calls Tryd.prog 36 #[.int .i64 (m0 : Int), .int .i64 10] u fun e w' => e = .returned (.string (str (Lib.decDigits m0))) ∧ Below u.heap.size u w') := fun u hb => CF.out m0 u hb b0
    have F1 : Hid (∀ u : World, Below w.heap.size w u → Calls Tryd.prog 36 #[.int .i64 (m1 : Int), .int .i64 10] u fun e w' => e = .returned (.string (str (Lib.decDigits m1))) ∧ Below u.heap.size u w') := fun u hb => CF.out m1 u hb b1
    have F2 : Hid (∀ u : World, Below w.heap.size w u → Calls Tryd.prog 36 #[.int .i64 (m2 : Int), .int .i64 10] u fun e w' => e = .returned (.string (str (Lib.decDigits m2))) ∧ Below u.heap.size u w') := fun u hb => CF.out m2 u hb b2
    have F3 : Hid (∀ u : World, Below w.heap.size w u → Calls Tryd.prog 36 #[.int .i64 (m3 : Int), .int .i64 10] u fun e w' => e = .returned (.string (str (Lib.decDigits m3))) ∧ Below u.heap.size u w') := fun u hb => CF.out m3 u hb b3
    have E0 : Hid ((adPs m0 m1 m2 m3 0).map Value.string ++ [.string (str (Lib.decDigits m0))] = (adPs m0 m1 m2 m3 1).map Value.string) := rfl
    have E1 : Hid ((adPs m0 m1 m2 m3 1).map Value.string ++ [.string (str (Lib.decDigits m1))] = (adPs m0 m1 m2 m3 2).map Value.string) := rfl
    have E2 : Hid ((adPs m0 m1 m2 m3 2).map Value.string ++ [.string (str (Lib.decDigits m2))] = (adPs m0 m1 m2 m3 3).map Value.string) := rfl
    have E3 : Hid ((adPs m0 m1 m2 m3 3).map Value.string ++ [.string (str (Lib.decDigits m3))] = (adPs m0 m1 m2 m3 4).map Value.string) := rfl
    have hown0 : ownV w w.heap.size 9 1 (.slice none 0 0) 0 ((adPs m0 m1 m2 m3 0).map .string) := ownV.nil _ _ _ _
    have hal : (adPs m0 m1 m2 m3 4).length = 4 := rfl
    generalize Lib.decDigits m0 = d0 at *
    generalize Lib.decDigits m1 = d1 at *
    generalize Lib.decDigits m2 = d2 at *
    generalize Lib.decDigits m3 = d3 at *
    generalize adPs m0 m1 m2 m3 = ps at *
    have CJ : Hid (∀ (g c : Nat) (u : World), (∀ (j : Nat) x, (ps 4)[j]? = some x → u.cell? ⟨g, 0 + j, none⟩ = some (.string x)) → g < u.heap.size → 4 ≤ c → Calls Tryd.prog 37 #[.slice (some ⟨g, 0, none⟩) 4 c, .string ⟨#[46]⟩] u fun e w' => e = .returned (.string (str (Lib.join ((ps 4).map (·.data.toList)) [46]))) ∧ Below u.heap.size u w') := fun g c u hc hg h4 => by
      have := Tryd.strings_Join g 0 c (ps 4) ⟨#[46]⟩ u hc hg (by omega) (by omega) (by show (Lib.join _ [46]).length ≤ _; omega)
      rw [hal] at this
      exact this
    clear ha hT CF b0 b1 b2 b3 hr hN
    go_enter Tryd.func13, Tryd.ntmps13
    go_wp2_with fail
    go_at_call 35
    refine (CA.out _).mono ?_
    rintro e wq ⟨rfl, hq⟩
    rw [hq]
    clear hq wq CA
    go_wp2
    go_loopw [3, 4] (fun v i wr => ∃ k : Nat, k ≤ 4 ∧ i = .int .i64 (24 - 8 * (k : Int)) ∧ ownV wr w.heap.size 9 1 v k ((ps k).map .string) ∧ Below w.heap.size w wr) (fun _ i _ => (intE i + 8).toNat)
    case atStart => exact ⟨0, by omega, rfl, hown0, Below.refl _ _⟩
    case round =>
      clear hown0
      obtain ⟨k, hk, rfl, hown, hB⟩ := hrel
      have hsz := hB.size
      have hk5 : k = 0 ∨ k = 1 ∨ k = 2 ∨ k = 3 ∨ k = 4 := by omega
      clear hk
      rcases hk5 with rfl | rfl | rfl | rfl | rfl
      · go_wp2_with fail
        refine (F0.out _ hB).mono ?_
        rintro e w3 ⟨rfl, hb⟩
        have hown3 := hown.far hb
        have hB3 := hB.trans (hb.mono hB.size)
        have hb4 := (Below.refl w3.heap.size w3).alloc (Nat.le_refl _) (.cells #[.string (str d0)] 9)
        have hown4 := hown3.far hb4
        have hB4 := hB3.trans (hb4.mono hB3.size)
        have hcell : (w3.alloc (.cells #[.string (str d0)] 9)).cell? ⟨w3.heap.size, 0, none⟩ = some (.string (str d0)) := by rw [World.cell?_alloc_mark]; rfl
        clear hb hb4 hown hB hown3 hB3
        go_wp2_with (at_builtin; refine wpList_append_str rfl _ _ rfl w.heap.size _ _ _ rfl hown4 w3.heap.size 1 (str d0) rfl hcell (by decide) hB4.size ?_; intro v' w5 hown5 hb5)
        rw [E0.out] at hown5
        go_roundw
        case rel => exact ⟨1, by omega, by go_num, hown5, hB4.trans hb5⟩
        case measure => simp [intE]
      · go_wp2_with fail
        refine (F1.out _ hB).mono ?_
        rintro e w3 ⟨rfl, hb⟩
        have hown3 := hown.far hb
        have hB3 := hB.trans (hb.mono hB.size)
        have hb4 := (Below.refl w3.heap.size w3).alloc (Nat.le_refl _) (.cells #[.string (str d1)] 9)
        have hown4 := hown3.far hb4
        have hB4 := hB3.trans (hb4.mono hB3.size)
        have hcell : (w3.alloc (.cells #[.string (str d1)] 9)).cell? ⟨w3.heap.size, 0, none⟩ = some (.string (str d1)) := by rw [World.cell?_alloc_mark]; rfl
        clear hb hb4 hown hB hown3 hB3
        go_wp2_with (at_builtin; refine wpList_append_str rfl _ _ rfl w.heap.size _ _ _ rfl hown4 w3.heap.size 1 (str d1) rfl hcell (by decide) hB4.size ?_; intro v' w5 hown5 hb5)
        rw [E1.out] at hown5
        go_roundw
        case rel => exact ⟨2, by omega, by go_num, hown5, hB4.trans hb5⟩
        case measure => simp [intE]
      · go_wp2_with fail
        refine (F2.out _ hB).mono ?_
        rintro e w3 ⟨rfl, hb⟩
        have hown3 := hown.far hb
        have hB3 := hB.trans (hb.mono hB.size)
        have hb4 := (Below.refl w3.heap.size w3).alloc (Nat.le_refl _) (.cells #[.string (str d2)] 9)
        have hown4 := hown3.far hb4
        have hB4 := hB3.trans (hb4.mono hB3.size)
        have hcell : (w3.alloc (.cells #[.string (str d2)] 9)).cell? ⟨w3.heap.size, 0, none⟩ = some (.string (str d2)) := by rw [World.cell?_alloc_mark]; rfl
        clear hb hb4 hown hB hown3 hB3
        go_wp2_with (at_builtin; refine wpList_append_str rfl _ _ rfl w.heap.size _ _ _ rfl hown4 w3.heap.size 1 (str d2) rfl hcell (by decide) hB4.size ?_; intro v' w5 hown5 hb5)
        rw [E2.out] at hown5
        go_roundw
        case rel => exact ⟨3, by omega, by go_num, hown5, hB4.trans hb5⟩
        case measure => simp [intE]
      · go_wp2_with fail
        refine (F3.out _ hB).mono ?_
        rintro e w3 ⟨rfl, hb⟩
        have hown3 := hown.far hb
        have hB3 := hB.trans (hb.mono hB.size)
        have hb4 := (Below.refl w3.heap.size w3).alloc (Nat.le_refl _) (.cells #[.string (str d3)] 9)
        have hown4 := hown3.far hb4
        have hB4 := hB3.trans (hb4.mono hB3.size)
        have hcell : (w3.alloc (.cells #[.string (str d3)] 9)).cell? ⟨w3.heap.size, 0, none⟩ = some (.string (str d3)) := by rw [World.cell?_alloc_mark]; rfl
        clear hb hb4 hown hB hown3 hB3
        go_wp2_with (at_builtin; refine wpList_append_str rfl _ _ rfl w.heap.size _ _ _ rfl hown4 w3.heap.size 1 (str d3) rfl hcell (by decide) hB4.size ?_; intro v' w5 hown5 hb5)
        rw [E3.out] at hown5
        go_roundw
        case rel => exact ⟨4, by omega, by go_num, hown5, hB4.trans hb5⟩
        case measure => simp [intE]
      · obtain ⟨g, c, rfl, hg, hgl, hcc, _⟩ : ∃ g cap, u3 = .slice (some ⟨g, 0, none⟩) 4 cap ∧ w.heap.size ≤ g ∧ g < wr.heap.size ∧ 4 ≤ cap ∧ cap ≤ maxLen := by
          rcases hown.shape with ⟨_, h0, _⟩ | h
          · cases h0
          · exact h
        have hcs : ∀ (j : Nat) x, (ps 4)[j]? = some x → wr.cell? ⟨g, 0 + j, none⟩ = some (.string x) := fun j x hj => by
          have hjl := (List.getElem?_eq_some_iff.1 hj).1
          rw [Nat.zero_add, hown.cell j (by omega), List.getElem?_map, hj]; rfl
        have CJ2 : Hid (Calls Tryd.prog 37 #[.slice (some ⟨g, 0, none⟩) 4 c, .string ⟨#[46]⟩] wr fun e w' => e = .returned (.string (str (Lib.join ((ps 4).map (·.data.toList)) [46]))) ∧ Below wr.heap.size wr w') := CJ.out g c wr hcs hgl hcc
        clear hcs CJ hown
        go_wp2_with fail
        refine CJ2.out.mono ?_
        rintro e w3 ⟨rfl, hb⟩
        go_wp2
        go_ret
        exact ⟨by rw [HV.out]; rfl, hB.trans (hb.mono hB.size)⟩
set_option maxRecDepth 100000 in
set_option maxHeartbeats 1600000 in
theorem walk_FnExactAddrText (n : Int) (_w0 : (Lit.int .i64 n).wf = true) (w : World) (hT : PowT w) :
    Calls Tryd.prog 3 #[.int .i64 n] w fun e w' => e = .returned (.bool true) ∧ Below w.heap.size w w' := by
  have CS : Hid (∀ u : World, Calls Tryd.prog 12 #[.int .i64 n] u fun e w' => e = .returned (.string (str (adText n))) ∧ Below u.heap.size u w') := fun u => s_AddrText n u
  have CI : Hid (∀ u : World, Below w.heap.size w u → Calls Tryd.prog 13 #[.int .i64 n] u fun e w' => e = .returned (.string (str (adText n))) ∧ Below u.heap.size u w') := fun u hb => i_AddrText n u (hT.below hb)
  clear hT
  generalize str (adText n) = t at *
  go_enter Tryd.func3, Tryd.ntmps3
  go_wp2_with fail
  refine (CS.out _).mono ?_
  rintro e w1 ⟨rfl, hB⟩
  go_wp2_with fail
  refine (CI.out _ hB).mono ?_
  rintro e w2 ⟨rfl, hb⟩
  go_wp2
  go_ret
  exact ⟨rfl, hB.trans (hb.mono hB.size)⟩
end Go.Proofs.YtgknkhhoelgnhaaDoor
