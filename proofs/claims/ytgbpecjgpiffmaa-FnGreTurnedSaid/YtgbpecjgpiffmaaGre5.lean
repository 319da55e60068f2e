/-
  What is read as a GRE, by the program.
-/
import Derived.Test.YtgbpecjgpiffmaaGre4
namespace Go.Proofs.Ytgbpecjgpiffmaa
open Go.RowKit Go.PlainAid
theorem beq_strg {T s : ByteArray} (h : T = s) : (T.toList == s.toList) = true := by rw [h]; simp
theorem bits_and_g (a b : Nat) (ha : a < 2 ^ 62) (hb : b < 2 ^ 62) : bits .and .i64 (a : Int) (b : Int) = ((a &&& b : Nat) : Int) := by
  simp only [bits, BitVec.ofInt_natCast, BitVec.toNat_and, BitVec.toNat_ofNat]
  have q1 : a % 2 ^ IntKind.bits .i64 = a := Nat.mod_eq_of_lt (Nat.lt_of_lt_of_le ha (by decide))
  have q2 : b % 2 ^ IntKind.bits .i64 = b := Nat.mod_eq_of_lt (Nat.lt_of_lt_of_le hb (by decide))
  rw [q1, q2]
  have : a &&& b ≤ a := Nat.and_le_left
  exact wraps_i64 _ (by omega) (by omega)
theorem nat_and_pow (a k : Nat) : a &&& 2 ^ k = if a / 2 ^ k % 2 = 1 then 2 ^ k else 0 := by
  have hb : a.testBit k = decide (a / 2 ^ k % 2 = 1) := Nat.testBit_eq_decide_div_mod_eq
  by_cases hq : a / 2 ^ k % 2 = 1
  · rw [if_pos hq]
    apply Nat.eq_of_testBit_eq
    intro i
    rw [Nat.testBit_and, Nat.testBit_two_pow]
    by_cases hi : k = i
    · subst hi; rw [hb, decide_eq_true hq]; simp
    · simp [hi]
  · rw [if_neg hq]
    apply Nat.eq_of_testBit_eq
    intro i
    rw [Nat.testBit_and, Nat.testBit_two_pow]
    by_cases hi : k = i
    · subst hi; rw [hb, decide_eq_false hq]; simp
    · simp [hi]
theorem and_mark {x : Int} (k : Nat) (hk : k < 60) (h₀ : 0 ≤ x) (h₁ : x < 4294967296) : bits .and .i64 x ((2 ^ k : Nat) : Int) = if x / ((2 ^ k : Nat) : Int) % 2 = 1 then ((2 ^ k : Nat) : Int) else 0 := by
  obtain ⟨a, rfl⟩ := Int.eq_ofNat_of_zero_le h₀
  rw [bits_and_g a (2 ^ k) (by omega) (Nat.pow_lt_pow_right (by decide) (by omega)), nat_and_pow]
  have e : ((a : Int) / ((2 ^ k : Nat) : Int) % 2 = 1) ↔ (a / 2 ^ k % 2 = 1) := by omega
  by_cases h : a / 2 ^ k % 2 = 1
  · rw [if_pos h, if_pos (e.2 h)]
  · rw [if_neg h, if_neg (fun q => h (e.1 q))]; rfl
theorem and_m7 {x : Int} (h₀ : 0 ≤ x) (h₁ : x < 4294967296) : bits .and .i64 x 128 = if x / 128 % 2 = 1 then 128 else 0 := and_mark 7 (by decide) h₀ h₁
theorem and_m5 {x : Int} (h₀ : 0 ≤ x) (h₁ : x < 4294967296) : bits .and .i64 x 32 = if x / 32 % 2 = 1 then 32 else 0 := and_mark 5 (by decide) h₀ h₁
theorem and_m4 {x : Int} (h₀ : 0 ≤ x) (h₁ : x < 4294967296) : bits .and .i64 x 16 = if x / 16 % 2 = 1 then 16 else 0 := and_mark 4 (by decide) h₀ h₁
def grF (g : GrV) (sv : Int) (s : ByteArray) : Int := if str (grText g sv) = s then (if sv = grSum g then 0 else 4) else 2
set_option maxRecDepth 100000 in
set_option maxHeartbeats 1600000 in
theorem i_faultGr (g : GrV) (sv : Int) (s : ByteArray) (w : World) (h0 : 0 ≤ sv) (h1 : sv ≤ 65535) (hk : g.key ≤ 9223372036854775807) (hs : g.seq ≤ 9223372036854775807) (hd : g.data.size ≤ 1048576) :
    Calls Try.prog 36 #[.iface 59 (.agg (grT g sv)), .string s] w fun e w' => e = .returned (.int .i64 (grF g sv s)) ∧ Below w.heap.size w w' := by
  have C : Hid (∀ u : World, Calls Try.prog 43 #[.iface 59 (.agg (grT g sv))] u fun e w' => e = .returned (.string (str (grText g sv))) ∧ Below u.heap.size u w') := fun u => i_tunGr g sv u h0 h1 hk hs (by omega)
  have CS : Hid (∀ u : World, Calls Try.prog 49 #[.agg (grL g)] u fun e w' => e = .returned (.int .i64 (grSum g)) ∧ Below u.heap.size u w') := fun u => i_greSum g u hk hs hd
  have HF : Hid (grF g sv s = if str (grText g sv) = s then (if sv = grSum g then 0 else 4) else 2) := rfl
  generalize grF g sv s = fv at *
  generalize str (grText g sv) = tx at *
  generalize grSum g = gs at *
  obtain ⟨a, b, x, c, y, d⟩ := g
  simp only [grL, grT] at *
  by_cases h : tx = s
  · have hb := beq_strg h
    rw [if_pos h] at HF
    clear h h0 h1 hk hs hd
    have t1 := fun w1 => as_gr_ge (.agg #[.bool a, .bool b, .int .i64 x, .bool c, .int .i64 y, .string d, .int .i64 sv]) w1
    have t2 := fun w1 => as_gr_gr (.agg #[.bool a, .bool b, .int .i64 x, .bool c, .int .i64 y, .string d, .int .i64 sv]) w1
    go_enter Try.func36, Try.ntmps36
    go_wp2_with fail
    go_at_call 43
    refine (C.out _).mono ?_
    rintro e w1 ⟨rfl, hb1⟩
    replace t1 := t1 w1
    replace t2 := t2 w1
    go_wp2_with fail
    have hA : Bx (w1.alloc (.cells #[.bool a, .bool b, .int .i64 x, .bool c, .int .i64 y, .string d, .int .i64 sv] 59)) w1.heap.size [.bool a, .bool b, .int .i64 x, .bool c, .int .i64 y, .string d, .int .i64 sv] := Bx.new w1 _ _
    have hB : Below w.heap.size w (w1.alloc (.cells #[.bool a, .bool b, .int .i64 x, .bool c, .int .i64 y, .string d, .int .i64 sv] 59)) := hb1.alloc hb1.size _
    generalize w1.alloc (.cells #[.bool a, .bool b, .int .i64 x, .bool c, .int .i64 y, .string d, .int .i64 sv] 59) = w2 at *
    have hne := BW.some w2
    have a0 := fun u : BW w2 => (hA.ofBW u).2 0 _ rfl
    have a1 := fun u : BW w2 => (hA.ofBW u).2 1 _ rfl
    have a2 := fun u : BW w2 => (hA.ofBW u).2 2 _ rfl
    have a3 := fun u : BW w2 => (hA.ofBW u).2 3 _ rfl
    have a4 := fun u : BW w2 => (hA.ofBW u).2 4 _ rfl
    have a5 := fun u : BW w2 => (hA.ofBW u).2 5 _ rfl
    have a6 := fun u : BW w2 => (hA.ofBW u).2 6 _ rfl
    refine wp_region_below (by kernel_rfl) (by kernel_rfl) ?_
    repeat (go_big_quiet_step (first | (go_at_call 49; exact Calls.into (CS.out _))))
    refine wpQuiet_nil ?_
    intro _ hw'
    obtain ⟨u, hw''⟩ := hw'
    subst hw''
    clear a0 a1 a2 a3 a4 a5 a6 hne t1 t2
    by_cases hq : sv = gs
    · rw [if_pos hq] at HF
      have hq2 : (sv != gs) = false := by simp [hq]
      clear hq
      go_wp2
      go_ret
      exact ⟨ret_i64 HF.out.symm, hB.trans (u.le.mono hB.size)⟩
    · rw [if_neg hq] at HF
      have hq2 : (sv != gs) = true := by simp [hq]
      clear hq
      go_wp2
      go_ret
      exact ⟨ret_i64 HF.out.symm, hB.trans (u.le.mono hB.size)⟩
  · have hb := str_ne h
    rw [if_neg h] at HF
    clear h h0 h1 hk hs hd
    go_enter Try.func36, Try.ntmps36
    go_wp2_with fail
    go_at_call 43
    refine (C.out _).mono ?_
    rintro e w1 ⟨rfl, hb1⟩
    go_wp2
    go_ret
    exact ⟨ret_i64 HF.out.symm, hb1⟩
theorem Bx.kept {W W' : World} {b : Nat} {vs : List Value} {r : Nat} (h : Bx W b vs) (hg : W.grownBy W' (some r)) (hr : b ≠ r) : Bx W' b vs :=
  ⟨Nat.lt_of_lt_of_le h.1 hg.size, fun i v hv => (World.cell?_of_block (w := W) (a := ⟨b, i, none⟩) (hg.block b h.1 (by simpa using hr))).trans (h.2 i v hv)⟩
theorem Fx.kept {W W' : World} {b : Nat} {r : Nat} (h : Fx W b) (hg : W.grownBy W' (some r)) (hr : b ≠ r) : Fx W' b :=
  ⟨Nat.lt_of_lt_of_le h.1 hg.size, fun j => (World.frozen?_of_block (w := W) (a := ⟨b, j, none⟩) (hg.block b h.1 (by simpa using hr))).trans (h.2 j)⟩
/-- the answer's block, the reader's behind it -/
structure RG (B : Nat) (zs : List Value) (w U : World) (s : ByteArray) (p : Int) (f : Bool) : Prop where
  below : Below w.heap.size w U
  eq : B = w.heap.size
  rd : Bx U (B + 1) (rdx s p f)
  rf : Fx U (B + 1)
  out : Bx U B zs
  fr : Fx U B
theorem RG.read {B : Nat} {zs : List Value} {w U U' : World} {s : ByteArray} {p p' : Int} {f f' : Bool} (h : RG B zs w U s p f) (r : RxTo U U' (B + 1) s p' f') : RG B zs w U' s p' f' :=
  ⟨r.beyond h.below (by have := h.eq; omega) h.below.size, h.eq, r.box, r.free, h.out.kept r.grown (by omega), h.fr.kept r.grown (by omega)⟩
theorem RG.more {B : Nat} {zs : List Value} {w U U' : World} {s : ByteArray} {p : Int} {f : Bool} (h : RG B zs w U s p f) (hb : Below U.heap.size U U') : RG B zs w U' s p f :=
  ⟨h.below.trans (hb.mono h.below.size), h.eq, h.rd.below hb, h.rf.below hb, h.out.below hb, h.fr.below hb⟩
theorem RG.set {B : Nat} {zs : List Value} {w U : World} {s : ByteArray} {p : Int} {f : Bool} (h : RG B zs w U s p f) (g j : Nat) (v : Value) (hg : B + 1 < g) : RG B zs w (U.setCell ⟨g, j, none⟩ v) s p f :=
  ⟨h.below.grown (gby_set U g j v) h.below.size (fun k hk => by have := h.eq; simp at hk; omega), h.eq, h.rd.kept (gby_set U g j v) (by omega), h.rf.put _ _, h.out.kept (gby_set U g j v) (by omega), h.fr.put _ _⟩
structure Gx (B : Nat) (U : World) (g : Nat) (vs : List Value) : Prop where
  bx : Bx U g vs
  fx : Fx U g
  lt : B + 1 < g
theorem Gx.read {B g : Nat} {vs : List Value} {U U' : World} {s : ByteArray} {p : Int} {f : Bool} (h : Gx B U g vs) (r : RxTo U U' (B + 1) s p f) : Gx B U' g vs :=
  ⟨h.bx.kept r.grown (by have := h.lt; omega), h.fx.kept r.grown (by have := h.lt; omega), h.lt⟩
theorem Gx.more {B g : Nat} {vs : List Value} {U U' : World} (h : Gx B U g vs) (hb : Below U.heap.size U U') : Gx B U' g vs :=
  ⟨h.bx.below hb, h.fx.below hb, h.lt⟩
theorem Gx.set {B g : Nat} {vs : List Value} {U : World} (h : Gx B U g vs) (j : Nat) (v : Value) : Gx B (U.setCell ⟨g, j, none⟩ v) g (vs.set j v) :=
  ⟨h.bx.put j v, h.fx.put _ _, h.lt⟩
theorem gr_no {s : ByteArray} {k : Int} (h : grC s = k) (hk : ¬ k = 0) : grR s = gr0 ∧ grC s = k := by
  unfold grR; rw [h, if_neg hk]; exact ⟨rfl, rfl⟩
theorem gr_yes {s : ByteArray} (h : grC s = 0) : grR s = grd s ∧ grC s = 0 := by
  unfold grR; rw [h]; exact ⟨rfl, rfl⟩
set_option maxRecDepth 100000 in
set_option maxHeartbeats 3200000 in
theorem i_RG000 (s : ByteArray) (w : World) (hs : s.size ≤ 1048576) (hga : gra s = false) (hgb : grb s = false) (hgc : grc s = false) :
    Calls Try.prog 11 #[.string s] w fun e w' => e = .returned (.tuple #[.agg (grL (grR s)), .int .i64 (grC s)]) ∧ Below w.heap.size w w' := by
  have hpD : gpD s = 4 := by unfold gpD gpS gpK; rw [hga, hgb, hgc]; rfl
  have hmb := numAt_bd s 0 1
  have hm0 : 0 ≤ numAt s 0 1 := hmb.1
  have hm1 : numAt s 0 1 < 256 := hmb.2
  clear hmb
  have m7 : bits .and .i64 (numAt s 0 1) 128 = 0 := by
    rw [and_m7 hm0 (by omega)]
    have : decide (numAt s 0 1 / 128 % 2 = 1) = false := hga
    rw [if_neg (of_decide_eq_false this)]
  have m5 : bits .and .i64 (numAt s 0 1) 32 = 0 := by
    rw [and_m5 hm0 (by omega)]
    have : decide (numAt s 0 1 / 32 % 2 = 1) = false := hgb
    rw [if_neg (of_decide_eq_false this)]
  have m4 : bits .and .i64 (numAt s 0 1) 16 = 0 := by
    rw [and_m4 hm0 (by omega)]
    have : decide (numAt s 0 1 / 16 % 2 = 1) = false := hgc
    rw [if_neg (of_decide_eq_false this)]
  have HY : Hid ((4 : Int) ≤ s.size → (nxP s (nxP s 0 1) 3) = 4 ∧ (nxF s (nxP s 0 1) 3 (nxF s 0 1 false)) = false ∧ (nxP s 0 1) = 1) := fun h => by
    have := ch_yes s [1, 3] 0 false (by simp) (by simpa using h)
    refine ⟨this.1, this.2, ?_⟩
    · exact (ch_yes s [1] 0 false (by simp) (by simp; omega)).1
  have HN : Hid ((s.size : Int) < 4 → (nxF s (nxP s 0 1) 3 (nxF s 0 1 false)) = true) := fun h => ch_no s [1, 3] 0 false (by omega) (by simpa using h)
  have CP : Hid (∀ (p k : Int) (f : Bool) (u : World), Bx u (w.heap.size + 1) (rdx s p f) → Fx u (w.heap.size + 1) → 0 ≤ p → p ≤ s.size → 0 ≤ k → k ≤ 1099511627776 → Calls Try.prog 34 #[.pointer (some ⟨w.heap.size + 1, 0, none⟩), .int .i64 k] u fun e w' => e = .returned (.string (pieceAt s p k)) ∧ RxTo u w' (w.heap.size + 1) s (nxP s p k) (nxF s p k f)) := fun p k f u h1 h2 h3 h4 h5 h6 => i_rdPiece s p k f _ u h1 h2 h3 h4 h5 h6 (by omega)
  have CN : Hid (∀ (p k : Int) (f : Bool) (u : World), Bx u (w.heap.size + 1) (rdx s p f) → Fx u (w.heap.size + 1) → 0 ≤ p → p ≤ s.size → 1 ≤ k → k ≤ 7 → Calls Try.prog 33 #[.pointer (some ⟨w.heap.size + 1, 0, none⟩), .int .i64 k] u fun e w' => e = .returned (.int .i64 (numAt s p k)) ∧ RxTo u w' (w.heap.size + 1) s (nxP s p k) (nxF s p k f)) := fun p k f u h1 h2 h3 h4 h5 h6 => i_rdNumber s p k f _ u h1 h2 h3 h4 h5 h6 (by omega)
  have CR : Hid (∀ (p : Int) (f : Bool) (u : World), Bx u (w.heap.size + 1) (rdx s p f) → 0 ≤ p → p ≤ s.size → Calls Try.prog 35 #[.pointer (some ⟨w.heap.size + 1, 0, none⟩)] u fun e w' => e = .returned (.string (s.extract p.toNat s.size)) ∧ Below u.heap.size u w') := fun p f u h1 h2 h3 => i_rdRest s p f _ u h1 h2 h3 (by omega)
  have hR : RG w.heap.size [.bool false, .bool false, .int .i64 0, .bool false, .int .i64 0, .string ⟨#[]⟩] w ((w.alloc (.cells #[.bool false, .bool false, .int .i64 0, .bool false, .int .i64 0, .string ⟨#[]⟩] 23)).alloc (.cells #[.string s, .int .i64 0, .bool false] 53)) s 0 false := by
    have hb0 : Below w.heap.size w (w.alloc (.cells #[.bool false, .bool false, .int .i64 0, .bool false, .int .i64 0, .string ⟨#[]⟩] 23)) := (Below.refl _ w).alloc (Nat.le_refl _) _
    have h1 := Bx.new (w.alloc (.cells #[.bool false, .bool false, .int .i64 0, .bool false, .int .i64 0, .string ⟨#[]⟩] 23)) #[.string s, .int .i64 0, .bool false] 53
    have h2 := Fx.new (w.alloc (.cells #[.bool false, .bool false, .int .i64 0, .bool false, .int .i64 0, .string ⟨#[]⟩] 23)) #[.string s, .int .i64 0, .bool false] 53
    have e : (w.alloc (.cells #[.bool false, .bool false, .int .i64 0, .bool false, .int .i64 0, .string ⟨#[]⟩] 23)).heap.size = w.heap.size + 1 := by simp
    rw [e] at h1 h2
    exact ⟨hb0.alloc (by simp) _, rfl, h1, h2, (Bx.new w #[.bool false, .bool false, .int .i64 0, .bool false, .int .i64 0, .string ⟨#[]⟩] _).below ((Below.refl _ _).alloc (Nat.le_refl _) _), (Fx.new w #[.bool false, .bool false, .int .i64 0, .bool false, .int .i64 0, .string ⟨#[]⟩] _).below ((Below.refl _ _).alloc (Nat.le_refl _) _)⟩
  have i1 := nxP_in (s := s) (p := 0) (k := 1) (by omega) (by omega) (by omega)
  have i2 := nxP_in (s := s) (p := (nxP s 0 1)) (k := 3) i1.1 i1.2 (by omega)
  go_enter Try.func11, Try.ntmps11
  go_wp2_with fail
  go_at_call 33
  refine (CN.out 0 1 false _ hR.rd hR.rf (by omega) (by omega) (by omega) (by omega)).mono ?_
  rintro e w1 ⟨rfl, hX⟩
  replace hR := hR.read hX
  clear hX
  go_wp2_with fail
  go_at_call 34
  refine (CP.out _ 3 _ _ hR.rd hR.rf i1.1 i1.2 (by omega) (by omega)).mono ?_
  rintro e w2 ⟨rfl, hX⟩
  replace hR := hR.read hX
  clear hX
  have hG : Gx w.heap.size (w2.alloc (.cells #[.bool false, .bool false, .int .i64 0, .bool false, .int .i64 0, .string ⟨#[]⟩] 23)) w2.heap.size [.bool false, .bool false, .int .i64 0, .bool false, .int .i64 0, .string ⟨#[]⟩] := ⟨Bx.new w2 _ _, Fx.new w2 _ _, by have := hR.rd.1; omega⟩
  replace hR := hR.more ((Below.refl _ w2).alloc (Nat.le_refl _) (.cells #[.bool false, .bool false, .int .i64 0, .bool false, .int .i64 0, .string ⟨#[]⟩] 23))
  go_wp2_with fail
  generalize hW : w2.alloc (.cells #[.bool false, .bool false, .int .i64 0, .bool false, .int .i64 0, .string ⟨#[]⟩] 23) = w3 at *
  clear hW
  generalize w2.heap.size = g at *
  have a0 := hG.bx.2 0 _ rfl
  have a1 := hG.bx.2 1 _ rfl
  have a2 := hG.bx.2 2 _ rfl
  have a3 := hG.bx.2 3 _ rfl
  have a4 := hG.bx.2 4 _ rfl
  have a5 := hG.bx.2 5 _ rfl
  go_at_call 35
  refine (CR.out _ _ _ hR.rd i2.1 i2.2).mono ?_
  rintro e w4 ⟨rfl, hX⟩
  replace hR := hR.more hX
  replace hG := hG.more hX
  clear hX
  clear a0 a1 a2 a3 a4 a5
  have a0 := hG.bx.2 0 _ rfl
  have a1 := hG.bx.2 1 _ rfl
  have a2 := hG.bx.2 2 _ rfl
  have a3 := hG.bx.2 3 _ rfl
  have a4 := hG.bx.2 4 _ rfl
  have a5 := hG.bx.2 5 _ rfl
  have q5 := hG.fx.2 5
  have rd2 := hR.rd.2 2 _ rfl
  have hgl := hG.lt
  by_cases h8 : 4 ≤ (s.size : Int)
  · have hh := HY.out h8
    rw [hh.2.1] at rd2
    rw [hh.1]
    have HD : Hid (grd s = ⟨false, false, 0, false, 0, s.extract 4 s.size⟩) := by
      show _ = _
      have e1 : gpK s = 4 := by unfold gpK; rw [hga]; rfl
      have e2 : gpS s = 4 := by unfold gpS; rw [hgb, e1]; rfl
      unfold grd; rw [hga, hgb, hgc, hpD, e1, e2]; rfl
    have HV : Hid (gsv s = 0) := by show _ = _; unfold gsv; rw [hga]; rfl
    have bv := gsv_bd s
    have bk := grd_key s
    have bd := grd_data s
    have CF : Hid (∀ u : World, Calls Try.prog 36 #[.iface 59 (.agg (grT (grd s) (gsv s))), .string s] u fun e w' => e = .returned (.int .i64 (grF (grd s) (gsv s) s)) ∧ Below u.heap.size u w') := fun u => i_faultGr _ _ s u bv.1 bv.2 bk.1 bk.2 (by omega)
    have HC : Hid (grC s = grF (grd s) (gsv s) s) := by show _ = _; unfold grC grF; rw [hpD, if_pos h8]
    have HYs : Hid (grC s = 0 → grR s = grd s ∧ grC s = 0) := fun h => gr_yes h
    have HNs : Hid (∀ k : Int, grC s = k → ¬ k = 0 → grR s = gr0 ∧ grC s = k) := fun k h hk => gr_no h hk
    generalize grF (grd s) (gsv s) s = fv at *
    rw [HD.out, HV.out] at CF
    simp only [grT] at CF
    clear bv bk bd HN CP CN CR hm0 hm1 m7 m5 m4
    simp only [Int.reduceToNat]
    clear HY hh
    generalize s.extract 4 s.size = da at *
    clear i1 i2
    go_wp2_with fail
    replace hR := hR.set g 5 (.string da) hG.lt
    replace hG : Gx w.heap.size _ g [.bool false, .bool false, .int .i64 0, .bool false, .int .i64 0, .string da] := hG.set 5 (.string da)
    generalize hW : World.setCell _ ⟨g, 5, none⟩ (.string da) = w99 at *
    clear hW q5 hgl
    go_at_call 36
    refine (CF.out _).mono ?_
    rintro e wf ⟨rfl, hX⟩
    replace hR := hR.more hX
    replace hG := hG.more hX
    clear hX rd2
    clear a0 a1 a2 a3 a4 a5
    have a0 := hG.bx.2 0 _ rfl
    have a1 := hG.bx.2 1 _ rfl
    have a2 := hG.bx.2 2 _ rfl
    have a3 := hG.bx.2 3 _ rfl
    have a4 := hG.bx.2 4 _ rfl
    have a5 := hG.bx.2 5 _ rfl
    have r0 := hR.out.2 0 _ rfl
    have r1 := hR.out.2 1 _ rfl
    have r2 := hR.out.2 2 _ rfl
    have r3 := hR.out.2 3 _ rfl
    have r4 := hR.out.2 4 _ rfl
    have r5 := hR.out.2 5 _ rfl
    have v0 := hR.fr.2 0
    have v1 := hR.fr.2 1
    have v2 := hR.fr.2 2
    have v3 := hR.fr.2 3
    have v4 := hR.fr.2 4
    have v5 := hR.fr.2 5
    have hgl := hG.lt
    have hB := hR.below
    by_cases hfv : fv = 0
    · have hf2 : (fv != 0) = false := by simp [hfv]
      have Z9 := HYs.out (HC.out.trans hfv)
      have ZZ : Hid (grL (grR s) = #[.bool false, .bool false, .int .i64 0, .bool false, .int .i64 0, .string da] ∧ grC s = 0) := ⟨by rw [Z9.1, HD.out]; rfl, Z9.2⟩
      clear Z9 hfv HYs HNs HC
      go_wp2
      refine bodyPost_ret (v := .tuple #[.agg #[.bool false, .bool false, .int .i64 0, .bool false, .int .i64 0, .string da], .int .i64 0]) ?_ rfl ⟨by rw [ZZ.out.1, ZZ.out.2], ?_⟩
      · simp [results, Try.results11, go_sem, r0, r1, r2, r3, r4, r5]
      · go_grown
    · have hf2 : (fv != 0) = true := by simp [hfv]
      have Z9 := HNs.out fv HC.out hfv
      have ZZ : Hid (grL (grR s) = #[.bool false, .bool false, .int .i64 0, .bool false, .int .i64 0, .string ⟨#[]⟩] ∧ grC s = fv) := ⟨by rw [Z9.1]; rfl, Z9.2⟩
      clear Z9 hfv HYs HNs HC
      go_wp2
      refine bodyPost_ret (v := .tuple #[.agg #[.bool false, .bool false, .int .i64 0, .bool false, .int .i64 0, .string ⟨#[]⟩], .int .i64 fv]) ?_ rfl ⟨by rw [ZZ.out.1, ZZ.out.2], ?_⟩
      · simp [results, Try.results11, go_sem, r0, r1, r2, r3, r4, r5]
      · go_grown
  · rw [HN.out (by omega)] at rd2
    have Z9 := gr_no (s := s) (k := 1) (by unfold grC; rw [hpD, if_neg h8]) (by decide)
    have ZZ : Hid (grL (grR s) = #[.bool false, .bool false, .int .i64 0, .bool false, .int .i64 0, .string ⟨#[]⟩] ∧ grC s = 1) := ⟨by rw [Z9.1]; rfl, Z9.2⟩
    clear Z9 HY HN CP CN CR hm0 hm1 m7 m5 m4
    have r0 := hR.out.2 0 _ rfl
    have r1 := hR.out.2 1 _ rfl
    have r2 := hR.out.2 2 _ rfl
    have r3 := hR.out.2 3 _ rfl
    have r4 := hR.out.2 4 _ rfl
    have r5 := hR.out.2 5 _ rfl
    have v0 := hR.fr.2 0
    have v1 := hR.fr.2 1
    have v2 := hR.fr.2 2
    have v3 := hR.fr.2 3
    have v4 := hR.fr.2 4
    have v5 := hR.fr.2 5
    have hB := hR.below
    clear hR hG
    go_wp2
    refine bodyPost_ret (v := .tuple #[.agg #[.bool false, .bool false, .int .i64 0, .bool false, .int .i64 0, .string ⟨#[]⟩], .int .i64 1]) ?_ rfl ⟨by rw [ZZ.out.1, ZZ.out.2], ?_⟩
    · simp [results, Try.results11, go_sem, r0, r1, r2, r3, r4, r5]
    · go_grown
set_option maxRecDepth 100000 in
set_option maxHeartbeats 3200000 in
theorem i_RG001 (s : ByteArray) (w : World) (hs : s.size ≤ 1048576) (hga : gra s = false) (hgb : grb s = false) (hgc : grc s = true) :
    Calls Try.prog 11 #[.string s] w fun e w' => e = .returned (.tuple #[.agg (grL (grR s)), .int .i64 (grC s)]) ∧ Below w.heap.size w w' := by
  have hpD : gpD s = 8 := by unfold gpD gpS gpK; rw [hga, hgb, hgc]; rfl
  have hmb := numAt_bd s 0 1
  have hm0 : 0 ≤ numAt s 0 1 := hmb.1
  have hm1 : numAt s 0 1 < 256 := hmb.2
  clear hmb
  have m7 : bits .and .i64 (numAt s 0 1) 128 = 0 := by
    rw [and_m7 hm0 (by omega)]
    have : decide (numAt s 0 1 / 128 % 2 = 1) = false := hga
    rw [if_neg (of_decide_eq_false this)]
  have m5 : bits .and .i64 (numAt s 0 1) 32 = 0 := by
    rw [and_m5 hm0 (by omega)]
    have : decide (numAt s 0 1 / 32 % 2 = 1) = false := hgb
    rw [if_neg (of_decide_eq_false this)]
  have m4 : bits .and .i64 (numAt s 0 1) 16 = 16 := by
    rw [and_m4 hm0 (by omega)]
    have : decide (numAt s 0 1 / 16 % 2 = 1) = true := hgc
    rw [if_pos (of_decide_eq_true this)]
  have HY : Hid ((8 : Int) ≤ s.size → (nxP s (nxP s (nxP s 0 1) 3) 4) = 8 ∧ (nxF s (nxP s (nxP s 0 1) 3) 4 (nxF s (nxP s 0 1) 3 (nxF s 0 1 false))) = false ∧ (nxP s 0 1) = 1 ∧ (nxP s (nxP s 0 1) 3) = 4) := fun h => by
    have := ch_yes s [1, 3, 4] 0 false (by simp) (by simpa using h)
    refine ⟨this.1, this.2, ?_, ?_⟩
    · exact (ch_yes s [1] 0 false (by simp) (by simp; omega)).1
    · exact (ch_yes s [1, 3] 0 false (by simp) (by simp; omega)).1
  have HN : Hid ((s.size : Int) < 8 → (nxF s (nxP s (nxP s 0 1) 3) 4 (nxF s (nxP s 0 1) 3 (nxF s 0 1 false))) = true) := fun h => ch_no s [1, 3, 4] 0 false (by omega) (by simpa using h)
  have CP : Hid (∀ (p k : Int) (f : Bool) (u : World), Bx u (w.heap.size + 1) (rdx s p f) → Fx u (w.heap.size + 1) → 0 ≤ p → p ≤ s.size → 0 ≤ k → k ≤ 1099511627776 → Calls Try.prog 34 #[.pointer (some ⟨w.heap.size + 1, 0, none⟩), .int .i64 k] u fun e w' => e = .returned (.string (pieceAt s p k)) ∧ RxTo u w' (w.heap.size + 1) s (nxP s p k) (nxF s p k f)) := fun p k f u h1 h2 h3 h4 h5 h6 => i_rdPiece s p k f _ u h1 h2 h3 h4 h5 h6 (by omega)
  have CN : Hid (∀ (p k : Int) (f : Bool) (u : World), Bx u (w.heap.size + 1) (rdx s p f) → Fx u (w.heap.size + 1) → 0 ≤ p → p ≤ s.size → 1 ≤ k → k ≤ 7 → Calls Try.prog 33 #[.pointer (some ⟨w.heap.size + 1, 0, none⟩), .int .i64 k] u fun e w' => e = .returned (.int .i64 (numAt s p k)) ∧ RxTo u w' (w.heap.size + 1) s (nxP s p k) (nxF s p k f)) := fun p k f u h1 h2 h3 h4 h5 h6 => i_rdNumber s p k f _ u h1 h2 h3 h4 h5 h6 (by omega)
  have CR : Hid (∀ (p : Int) (f : Bool) (u : World), Bx u (w.heap.size + 1) (rdx s p f) → 0 ≤ p → p ≤ s.size → Calls Try.prog 35 #[.pointer (some ⟨w.heap.size + 1, 0, none⟩)] u fun e w' => e = .returned (.string (s.extract p.toNat s.size)) ∧ Below u.heap.size u w') := fun p f u h1 h2 h3 => i_rdRest s p f _ u h1 h2 h3 (by omega)
  have hR : RG w.heap.size [.bool false, .bool false, .int .i64 0, .bool false, .int .i64 0, .string ⟨#[]⟩] w ((w.alloc (.cells #[.bool false, .bool false, .int .i64 0, .bool false, .int .i64 0, .string ⟨#[]⟩] 23)).alloc (.cells #[.string s, .int .i64 0, .bool false] 53)) s 0 false := by
    have hb0 : Below w.heap.size w (w.alloc (.cells #[.bool false, .bool false, .int .i64 0, .bool false, .int .i64 0, .string ⟨#[]⟩] 23)) := (Below.refl _ w).alloc (Nat.le_refl _) _
    have h1 := Bx.new (w.alloc (.cells #[.bool false, .bool false, .int .i64 0, .bool false, .int .i64 0, .string ⟨#[]⟩] 23)) #[.string s, .int .i64 0, .bool false] 53
    have h2 := Fx.new (w.alloc (.cells #[.bool false, .bool false, .int .i64 0, .bool false, .int .i64 0, .string ⟨#[]⟩] 23)) #[.string s, .int .i64 0, .bool false] 53
    have e : (w.alloc (.cells #[.bool false, .bool false, .int .i64 0, .bool false, .int .i64 0, .string ⟨#[]⟩] 23)).heap.size = w.heap.size + 1 := by simp
    rw [e] at h1 h2
    exact ⟨hb0.alloc (by simp) _, rfl, h1, h2, (Bx.new w #[.bool false, .bool false, .int .i64 0, .bool false, .int .i64 0, .string ⟨#[]⟩] _).below ((Below.refl _ _).alloc (Nat.le_refl _) _), (Fx.new w #[.bool false, .bool false, .int .i64 0, .bool false, .int .i64 0, .string ⟨#[]⟩] _).below ((Below.refl _ _).alloc (Nat.le_refl _) _)⟩
  have i1 := nxP_in (s := s) (p := 0) (k := 1) (by omega) (by omega) (by omega)
  have i2 := nxP_in (s := s) (p := (nxP s 0 1)) (k := 3) i1.1 i1.2 (by omega)
  have i3 := nxP_in (s := s) (p := (nxP s (nxP s 0 1) 3)) (k := 4) i2.1 i2.2 (by omega)
  go_enter Try.func11, Try.ntmps11
  go_wp2_with fail
  go_at_call 33
  refine (CN.out 0 1 false _ hR.rd hR.rf (by omega) (by omega) (by omega) (by omega)).mono ?_
  rintro e w1 ⟨rfl, hX⟩
  replace hR := hR.read hX
  clear hX
  go_wp2_with fail
  go_at_call 34
  refine (CP.out _ 3 _ _ hR.rd hR.rf i1.1 i1.2 (by omega) (by omega)).mono ?_
  rintro e w2 ⟨rfl, hX⟩
  replace hR := hR.read hX
  clear hX
  have hG : Gx w.heap.size (w2.alloc (.cells #[.bool false, .bool false, .int .i64 0, .bool true, .int .i64 0, .string ⟨#[]⟩] 23)) w2.heap.size [.bool false, .bool false, .int .i64 0, .bool true, .int .i64 0, .string ⟨#[]⟩] := ⟨Bx.new w2 _ _, Fx.new w2 _ _, by have := hR.rd.1; omega⟩
  replace hR := hR.more ((Below.refl _ w2).alloc (Nat.le_refl _) (.cells #[.bool false, .bool false, .int .i64 0, .bool true, .int .i64 0, .string ⟨#[]⟩] 23))
  go_wp2_with fail
  generalize hW : w2.alloc (.cells #[.bool false, .bool false, .int .i64 0, .bool true, .int .i64 0, .string ⟨#[]⟩] 23) = w3 at *
  clear hW
  generalize w2.heap.size = g at *
  have a0 := hG.bx.2 0 _ rfl
  have a1 := hG.bx.2 1 _ rfl
  have a2 := hG.bx.2 2 _ rfl
  have a3 := hG.bx.2 3 _ rfl
  have a4 := hG.bx.2 4 _ rfl
  have a5 := hG.bx.2 5 _ rfl
  go_at_call 33
  refine (CN.out _ 4 _ _ hR.rd hR.rf i2.1 i2.2 (by omega) (by omega)).mono ?_
  rintro e w4 ⟨rfl, hX⟩
  replace hR := hR.read hX
  replace hG := hG.read hX
  clear hX
  clear a0 a1 a2 a3 a4 a5
  have a0 := hG.bx.2 0 _ rfl
  have a1 := hG.bx.2 1 _ rfl
  have a2 := hG.bx.2 2 _ rfl
  have a3 := hG.bx.2 3 _ rfl
  have a4 := hG.bx.2 4 _ rfl
  have a5 := hG.bx.2 5 _ rfl
  have q4 := hG.fx.2 4
  go_wp2_with fail
  replace hR := hR.set g 4 (.int .i64 (numAt s (nxP s (nxP s 0 1) 3) 4)) hG.lt
  replace hG : Gx w.heap.size _ g [.bool false, .bool false, .int .i64 0, .bool true, .int .i64 (numAt s (nxP s (nxP s 0 1) 3) 4), .string ⟨#[]⟩] := hG.set 4 (.int .i64 (numAt s (nxP s (nxP s 0 1) 3) 4))
  generalize hW : w4.setCell ⟨g, 4, none⟩ (.int .i64 (numAt s (nxP s (nxP s 0 1) 3) 4)) = w5 at *
  clear hW q4
  clear a0 a1 a2 a3 a4 a5
  have a0 := hG.bx.2 0 _ rfl
  have a1 := hG.bx.2 1 _ rfl
  have a2 := hG.bx.2 2 _ rfl
  have a3 := hG.bx.2 3 _ rfl
  have a4 := hG.bx.2 4 _ rfl
  have a5 := hG.bx.2 5 _ rfl
  go_at_call 35
  refine (CR.out _ _ _ hR.rd i3.1 i3.2).mono ?_
  rintro e w6 ⟨rfl, hX⟩
  replace hR := hR.more hX
  replace hG := hG.more hX
  clear hX
  clear a0 a1 a2 a3 a4 a5
  have a0 := hG.bx.2 0 _ rfl
  have a1 := hG.bx.2 1 _ rfl
  have a2 := hG.bx.2 2 _ rfl
  have a3 := hG.bx.2 3 _ rfl
  have a4 := hG.bx.2 4 _ rfl
  have a5 := hG.bx.2 5 _ rfl
  have q5 := hG.fx.2 5
  have rd2 := hR.rd.2 2 _ rfl
  have hgl := hG.lt
  by_cases h8 : 8 ≤ (s.size : Int)
  · have hh := HY.out h8
    rw [hh.2.1] at rd2
    rw [hh.1]
    have HD : Hid (grd s = ⟨false, false, 0, true, numAt s 4 4, s.extract 8 s.size⟩) := by
      show _ = _
      have e1 : gpK s = 4 := by unfold gpK; rw [hga]; rfl
      have e2 : gpS s = 4 := by unfold gpS; rw [hgb, e1]; rfl
      unfold grd; rw [hga, hgb, hgc, hpD, e1, e2]; rfl
    have HV : Hid (gsv s = 0) := by show _ = _; unfold gsv; rw [hga]; rfl
    have bv := gsv_bd s
    have bk := grd_key s
    have bd := grd_data s
    have CF : Hid (∀ u : World, Calls Try.prog 36 #[.iface 59 (.agg (grT (grd s) (gsv s))), .string s] u fun e w' => e = .returned (.int .i64 (grF (grd s) (gsv s) s)) ∧ Below u.heap.size u w') := fun u => i_faultGr _ _ s u bv.1 bv.2 bk.1 bk.2 (by omega)
    have HC : Hid (grC s = grF (grd s) (gsv s) s) := by show _ = _; unfold grC grF; rw [hpD, if_pos h8]
    have HYs : Hid (grC s = 0 → grR s = grd s ∧ grC s = 0) := fun h => gr_yes h
    have HNs : Hid (∀ k : Int, grC s = k → ¬ k = 0 → grR s = gr0 ∧ grC s = k) := fun k h hk => gr_no h hk
    generalize grF (grd s) (gsv s) s = fv at *
    rw [HD.out, HV.out] at CF
    simp only [grT] at CF
    clear bv bk bd HN CP CN CR hm0 hm1 m7 m5 m4
    rw [hh.2.2.2] at hG a4
    simp only [Int.reduceToNat]
    clear HY hh
    generalize numAt s 4 4 = ns at *
    generalize s.extract 8 s.size = da at *
    clear i1 i2 i3
    go_wp2_with fail
    replace hR := hR.set g 5 (.string da) hG.lt
    replace hG : Gx w.heap.size _ g [.bool false, .bool false, .int .i64 0, .bool true, .int .i64 ns, .string da] := hG.set 5 (.string da)
    generalize hW : World.setCell _ ⟨g, 5, none⟩ (.string da) = w99 at *
    clear hW q5 hgl
    go_at_call 36
    refine (CF.out _).mono ?_
    rintro e wf ⟨rfl, hX⟩
    replace hR := hR.more hX
    replace hG := hG.more hX
    clear hX rd2
    clear a0 a1 a2 a3 a4 a5
    have a0 := hG.bx.2 0 _ rfl
    have a1 := hG.bx.2 1 _ rfl
    have a2 := hG.bx.2 2 _ rfl
    have a3 := hG.bx.2 3 _ rfl
    have a4 := hG.bx.2 4 _ rfl
    have a5 := hG.bx.2 5 _ rfl
    have r0 := hR.out.2 0 _ rfl
    have r1 := hR.out.2 1 _ rfl
    have r2 := hR.out.2 2 _ rfl
    have r3 := hR.out.2 3 _ rfl
    have r4 := hR.out.2 4 _ rfl
    have r5 := hR.out.2 5 _ rfl
    have v0 := hR.fr.2 0
    have v1 := hR.fr.2 1
    have v2 := hR.fr.2 2
    have v3 := hR.fr.2 3
    have v4 := hR.fr.2 4
    have v5 := hR.fr.2 5
    have hgl := hG.lt
    have hB := hR.below
    by_cases hfv : fv = 0
    · have hf2 : (fv != 0) = false := by simp [hfv]
      have Z9 := HYs.out (HC.out.trans hfv)
      have ZZ : Hid (grL (grR s) = #[.bool false, .bool false, .int .i64 0, .bool true, .int .i64 ns, .string da] ∧ grC s = 0) := ⟨by rw [Z9.1, HD.out]; rfl, Z9.2⟩
      clear Z9 hfv HYs HNs HC
      go_wp2
      refine bodyPost_ret (v := .tuple #[.agg #[.bool false, .bool false, .int .i64 0, .bool true, .int .i64 ns, .string da], .int .i64 0]) ?_ rfl ⟨by rw [ZZ.out.1, ZZ.out.2], ?_⟩
      · simp [results, Try.results11, go_sem, r0, r1, r2, r3, r4, r5]
      · go_grown
    · have hf2 : (fv != 0) = true := by simp [hfv]
      have Z9 := HNs.out fv HC.out hfv
      have ZZ : Hid (grL (grR s) = #[.bool false, .bool false, .int .i64 0, .bool false, .int .i64 0, .string ⟨#[]⟩] ∧ grC s = fv) := ⟨by rw [Z9.1]; rfl, Z9.2⟩
      clear Z9 hfv HYs HNs HC
      go_wp2
      refine bodyPost_ret (v := .tuple #[.agg #[.bool false, .bool false, .int .i64 0, .bool false, .int .i64 0, .string ⟨#[]⟩], .int .i64 fv]) ?_ rfl ⟨by rw [ZZ.out.1, ZZ.out.2], ?_⟩
      · simp [results, Try.results11, go_sem, r0, r1, r2, r3, r4, r5]
      · go_grown
  · rw [HN.out (by omega)] at rd2
    have Z9 := gr_no (s := s) (k := 1) (by unfold grC; rw [hpD, if_neg h8]) (by decide)
    have ZZ : Hid (grL (grR s) = #[.bool false, .bool false, .int .i64 0, .bool false, .int .i64 0, .string ⟨#[]⟩] ∧ grC s = 1) := ⟨by rw [Z9.1]; rfl, Z9.2⟩
    clear Z9 HY HN CP CN CR hm0 hm1 m7 m5 m4
    have r0 := hR.out.2 0 _ rfl
    have r1 := hR.out.2 1 _ rfl
    have r2 := hR.out.2 2 _ rfl
    have r3 := hR.out.2 3 _ rfl
    have r4 := hR.out.2 4 _ rfl
    have r5 := hR.out.2 5 _ rfl
    have v0 := hR.fr.2 0
    have v1 := hR.fr.2 1
    have v2 := hR.fr.2 2
    have v3 := hR.fr.2 3
    have v4 := hR.fr.2 4
    have v5 := hR.fr.2 5
    have hB := hR.below
    clear hR hG
    go_wp2
    refine bodyPost_ret (v := .tuple #[.agg #[.bool false, .bool false, .int .i64 0, .bool false, .int .i64 0, .string ⟨#[]⟩], .int .i64 1]) ?_ rfl ⟨by rw [ZZ.out.1, ZZ.out.2], ?_⟩
    · simp [results, Try.results11, go_sem, r0, r1, r2, r3, r4, r5]
    · go_grown
set_option maxRecDepth 100000 in
set_option maxHeartbeats 3200000 in
theorem i_RG010 (s : ByteArray) (w : World) (hs : s.size ≤ 1048576) (hga : gra s = false) (hgb : grb s = true) (hgc : grc s = false) :
    Calls Try.prog 11 #[.string s] w fun e w' => e = .returned (.tuple #[.agg (grL (grR s)), .int .i64 (grC s)]) ∧ Below w.heap.size w w' := by
  have hpD : gpD s = 8 := by unfold gpD gpS gpK; rw [hga, hgb, hgc]; rfl
  have hmb := numAt_bd s 0 1
  have hm0 : 0 ≤ numAt s 0 1 := hmb.1
  have hm1 : numAt s 0 1 < 256 := hmb.2
  clear hmb
  have m7 : bits .and .i64 (numAt s 0 1) 128 = 0 := by
    rw [and_m7 hm0 (by omega)]
    have : decide (numAt s 0 1 / 128 % 2 = 1) = false := hga
    rw [if_neg (of_decide_eq_false this)]
  have m5 : bits .and .i64 (numAt s 0 1) 32 = 32 := by
    rw [and_m5 hm0 (by omega)]
    have : decide (numAt s 0 1 / 32 % 2 = 1) = true := hgb
    rw [if_pos (of_decide_eq_true this)]
  have m4 : bits .and .i64 (numAt s 0 1) 16 = 0 := by
    rw [and_m4 hm0 (by omega)]
    have : decide (numAt s 0 1 / 16 % 2 = 1) = false := hgc
    rw [if_neg (of_decide_eq_false this)]
  have HY : Hid ((8 : Int) ≤ s.size → (nxP s (nxP s (nxP s 0 1) 3) 4) = 8 ∧ (nxF s (nxP s (nxP s 0 1) 3) 4 (nxF s (nxP s 0 1) 3 (nxF s 0 1 false))) = false ∧ (nxP s 0 1) = 1 ∧ (nxP s (nxP s 0 1) 3) = 4) := fun h => by
    have := ch_yes s [1, 3, 4] 0 false (by simp) (by simpa using h)
    refine ⟨this.1, this.2, ?_, ?_⟩
    · exact (ch_yes s [1] 0 false (by simp) (by simp; omega)).1
    · exact (ch_yes s [1, 3] 0 false (by simp) (by simp; omega)).1
  have HN : Hid ((s.size : Int) < 8 → (nxF s (nxP s (nxP s 0 1) 3) 4 (nxF s (nxP s 0 1) 3 (nxF s 0 1 false))) = true) := fun h => ch_no s [1, 3, 4] 0 false (by omega) (by simpa using h)
  have CP : Hid (∀ (p k : Int) (f : Bool) (u : World), Bx u (w.heap.size + 1) (rdx s p f) → Fx u (w.heap.size + 1) → 0 ≤ p → p ≤ s.size → 0 ≤ k → k ≤ 1099511627776 → Calls Try.prog 34 #[.pointer (some ⟨w.heap.size + 1, 0, none⟩), .int .i64 k] u fun e w' => e = .returned (.string (pieceAt s p k)) ∧ RxTo u w' (w.heap.size + 1) s (nxP s p k) (nxF s p k f)) := fun p k f u h1 h2 h3 h4 h5 h6 => i_rdPiece s p k f _ u h1 h2 h3 h4 h5 h6 (by omega)
  have CN : Hid (∀ (p k : Int) (f : Bool) (u : World), Bx u (w.heap.size + 1) (rdx s p f) → Fx u (w.heap.size + 1) → 0 ≤ p → p ≤ s.size → 1 ≤ k → k ≤ 7 → Calls Try.prog 33 #[.pointer (some ⟨w.heap.size + 1, 0, none⟩), .int .i64 k] u fun e w' => e = .returned (.int .i64 (numAt s p k)) ∧ RxTo u w' (w.heap.size + 1) s (nxP s p k) (nxF s p k f)) := fun p k f u h1 h2 h3 h4 h5 h6 => i_rdNumber s p k f _ u h1 h2 h3 h4 h5 h6 (by omega)
  have CR : Hid (∀ (p : Int) (f : Bool) (u : World), Bx u (w.heap.size + 1) (rdx s p f) → 0 ≤ p → p ≤ s.size → Calls Try.prog 35 #[.pointer (some ⟨w.heap.size + 1, 0, none⟩)] u fun e w' => e = .returned (.string (s.extract p.toNat s.size)) ∧ Below u.heap.size u w') := fun p f u h1 h2 h3 => i_rdRest s p f _ u h1 h2 h3 (by omega)
  have hR : RG w.heap.size [.bool false, .bool false, .int .i64 0, .bool false, .int .i64 0, .string ⟨#[]⟩] w ((w.alloc (.cells #[.bool false, .bool false, .int .i64 0, .bool false, .int .i64 0, .string ⟨#[]⟩] 23)).alloc (.cells #[.string s, .int .i64 0, .bool false] 53)) s 0 false := by
    have hb0 : Below w.heap.size w (w.alloc (.cells #[.bool false, .bool false, .int .i64 0, .bool false, .int .i64 0, .string ⟨#[]⟩] 23)) := (Below.refl _ w).alloc (Nat.le_refl _) _
    have h1 := Bx.new (w.alloc (.cells #[.bool false, .bool false, .int .i64 0, .bool false, .int .i64 0, .string ⟨#[]⟩] 23)) #[.string s, .int .i64 0, .bool false] 53
    have h2 := Fx.new (w.alloc (.cells #[.bool false, .bool false, .int .i64 0, .bool false, .int .i64 0, .string ⟨#[]⟩] 23)) #[.string s, .int .i64 0, .bool false] 53
    have e : (w.alloc (.cells #[.bool false, .bool false, .int .i64 0, .bool false, .int .i64 0, .string ⟨#[]⟩] 23)).heap.size = w.heap.size + 1 := by simp
    rw [e] at h1 h2
    exact ⟨hb0.alloc (by simp) _, rfl, h1, h2, (Bx.new w #[.bool false, .bool false, .int .i64 0, .bool false, .int .i64 0, .string ⟨#[]⟩] _).below ((Below.refl _ _).alloc (Nat.le_refl _) _), (Fx.new w #[.bool false, .bool false, .int .i64 0, .bool false, .int .i64 0, .string ⟨#[]⟩] _).below ((Below.refl _ _).alloc (Nat.le_refl _) _)⟩
  have i1 := nxP_in (s := s) (p := 0) (k := 1) (by omega) (by omega) (by omega)
  have i2 := nxP_in (s := s) (p := (nxP s 0 1)) (k := 3) i1.1 i1.2 (by omega)
  have i3 := nxP_in (s := s) (p := (nxP s (nxP s 0 1) 3)) (k := 4) i2.1 i2.2 (by omega)
  go_enter Try.func11, Try.ntmps11
  go_wp2_with fail
  go_at_call 33
  refine (CN.out 0 1 false _ hR.rd hR.rf (by omega) (by omega) (by omega) (by omega)).mono ?_
  rintro e w1 ⟨rfl, hX⟩
  replace hR := hR.read hX
  clear hX
  go_wp2_with fail
  go_at_call 34
  refine (CP.out _ 3 _ _ hR.rd hR.rf i1.1 i1.2 (by omega) (by omega)).mono ?_
  rintro e w2 ⟨rfl, hX⟩
  replace hR := hR.read hX
  clear hX
  have hG : Gx w.heap.size (w2.alloc (.cells #[.bool false, .bool true, .int .i64 0, .bool false, .int .i64 0, .string ⟨#[]⟩] 23)) w2.heap.size [.bool false, .bool true, .int .i64 0, .bool false, .int .i64 0, .string ⟨#[]⟩] := ⟨Bx.new w2 _ _, Fx.new w2 _ _, by have := hR.rd.1; omega⟩
  replace hR := hR.more ((Below.refl _ w2).alloc (Nat.le_refl _) (.cells #[.bool false, .bool true, .int .i64 0, .bool false, .int .i64 0, .string ⟨#[]⟩] 23))
  go_wp2_with fail
  generalize hW : w2.alloc (.cells #[.bool false, .bool true, .int .i64 0, .bool false, .int .i64 0, .string ⟨#[]⟩] 23) = w3 at *
  clear hW
  generalize w2.heap.size = g at *
  have a0 := hG.bx.2 0 _ rfl
  have a1 := hG.bx.2 1 _ rfl
  have a2 := hG.bx.2 2 _ rfl
  have a3 := hG.bx.2 3 _ rfl
  have a4 := hG.bx.2 4 _ rfl
  have a5 := hG.bx.2 5 _ rfl
  go_at_call 33
  refine (CN.out _ 4 _ _ hR.rd hR.rf i2.1 i2.2 (by omega) (by omega)).mono ?_
  rintro e w4 ⟨rfl, hX⟩
  replace hR := hR.read hX
  replace hG := hG.read hX
  clear hX
  clear a0 a1 a2 a3 a4 a5
  have a0 := hG.bx.2 0 _ rfl
  have a1 := hG.bx.2 1 _ rfl
  have a2 := hG.bx.2 2 _ rfl
  have a3 := hG.bx.2 3 _ rfl
  have a4 := hG.bx.2 4 _ rfl
  have a5 := hG.bx.2 5 _ rfl
  have q2 := hG.fx.2 2
  go_wp2_with fail
  replace hR := hR.set g 2 (.int .i64 (numAt s (nxP s (nxP s 0 1) 3) 4)) hG.lt
  replace hG : Gx w.heap.size _ g [.bool false, .bool true, .int .i64 (numAt s (nxP s (nxP s 0 1) 3) 4), .bool false, .int .i64 0, .string ⟨#[]⟩] := hG.set 2 (.int .i64 (numAt s (nxP s (nxP s 0 1) 3) 4))
  generalize hW : w4.setCell ⟨g, 2, none⟩ (.int .i64 (numAt s (nxP s (nxP s 0 1) 3) 4)) = w5 at *
  clear hW q2
  clear a0 a1 a2 a3 a4 a5
  have a0 := hG.bx.2 0 _ rfl
  have a1 := hG.bx.2 1 _ rfl
  have a2 := hG.bx.2 2 _ rfl
  have a3 := hG.bx.2 3 _ rfl
  have a4 := hG.bx.2 4 _ rfl
  have a5 := hG.bx.2 5 _ rfl
  go_at_call 35
  refine (CR.out _ _ _ hR.rd i3.1 i3.2).mono ?_
  rintro e w6 ⟨rfl, hX⟩
  replace hR := hR.more hX
  replace hG := hG.more hX
  clear hX
  clear a0 a1 a2 a3 a4 a5
  have a0 := hG.bx.2 0 _ rfl
  have a1 := hG.bx.2 1 _ rfl
  have a2 := hG.bx.2 2 _ rfl
  have a3 := hG.bx.2 3 _ rfl
  have a4 := hG.bx.2 4 _ rfl
  have a5 := hG.bx.2 5 _ rfl
  have q5 := hG.fx.2 5
  have rd2 := hR.rd.2 2 _ rfl
  have hgl := hG.lt
  by_cases h8 : 8 ≤ (s.size : Int)
  · have hh := HY.out h8
    rw [hh.2.1] at rd2
    rw [hh.1]
    have HD : Hid (grd s = ⟨false, true, numAt s 4 4, false, 0, s.extract 8 s.size⟩) := by
      show _ = _
      have e1 : gpK s = 4 := by unfold gpK; rw [hga]; rfl
      have e2 : gpS s = 8 := by unfold gpS; rw [hgb, e1]; rfl
      unfold grd; rw [hga, hgb, hgc, hpD, e1, e2]; rfl
    have HV : Hid (gsv s = 0) := by show _ = _; unfold gsv; rw [hga]; rfl
    have bv := gsv_bd s
    have bk := grd_key s
    have bd := grd_data s
    have CF : Hid (∀ u : World, Calls Try.prog 36 #[.iface 59 (.agg (grT (grd s) (gsv s))), .string s] u fun e w' => e = .returned (.int .i64 (grF (grd s) (gsv s) s)) ∧ Below u.heap.size u w') := fun u => i_faultGr _ _ s u bv.1 bv.2 bk.1 bk.2 (by omega)
    have HC : Hid (grC s = grF (grd s) (gsv s) s) := by show _ = _; unfold grC grF; rw [hpD, if_pos h8]
    have HYs : Hid (grC s = 0 → grR s = grd s ∧ grC s = 0) := fun h => gr_yes h
    have HNs : Hid (∀ k : Int, grC s = k → ¬ k = 0 → grR s = gr0 ∧ grC s = k) := fun k h hk => gr_no h hk
    generalize grF (grd s) (gsv s) s = fv at *
    rw [HD.out, HV.out] at CF
    simp only [grT] at CF
    clear bv bk bd HN CP CN CR hm0 hm1 m7 m5 m4
    rw [hh.2.2.2] at hG a2
    simp only [Int.reduceToNat]
    clear HY hh
    generalize numAt s 4 4 = nk at *
    generalize s.extract 8 s.size = da at *
    clear i1 i2 i3
    go_wp2_with fail
    replace hR := hR.set g 5 (.string da) hG.lt
    replace hG : Gx w.heap.size _ g [.bool false, .bool true, .int .i64 nk, .bool false, .int .i64 0, .string da] := hG.set 5 (.string da)
    generalize hW : World.setCell _ ⟨g, 5, none⟩ (.string da) = w99 at *
    clear hW q5 hgl
    go_at_call 36
    refine (CF.out _).mono ?_
    rintro e wf ⟨rfl, hX⟩
    replace hR := hR.more hX
    replace hG := hG.more hX
    clear hX rd2
    clear a0 a1 a2 a3 a4 a5
    have a0 := hG.bx.2 0 _ rfl
    have a1 := hG.bx.2 1 _ rfl
    have a2 := hG.bx.2 2 _ rfl
    have a3 := hG.bx.2 3 _ rfl
    have a4 := hG.bx.2 4 _ rfl
    have a5 := hG.bx.2 5 _ rfl
    have r0 := hR.out.2 0 _ rfl
    have r1 := hR.out.2 1 _ rfl
    have r2 := hR.out.2 2 _ rfl
    have r3 := hR.out.2 3 _ rfl
    have r4 := hR.out.2 4 _ rfl
    have r5 := hR.out.2 5 _ rfl
    have v0 := hR.fr.2 0
    have v1 := hR.fr.2 1
    have v2 := hR.fr.2 2
    have v3 := hR.fr.2 3
    have v4 := hR.fr.2 4
    have v5 := hR.fr.2 5
    have hgl := hG.lt
    have hB := hR.below
    by_cases hfv : fv = 0
    · have hf2 : (fv != 0) = false := by simp [hfv]
      have Z9 := HYs.out (HC.out.trans hfv)
      have ZZ : Hid (grL (grR s) = #[.bool false, .bool true, .int .i64 nk, .bool false, .int .i64 0, .string da] ∧ grC s = 0) := ⟨by rw [Z9.1, HD.out]; rfl, Z9.2⟩
      clear Z9 hfv HYs HNs HC
      go_wp2
      refine bodyPost_ret (v := .tuple #[.agg #[.bool false, .bool true, .int .i64 nk, .bool false, .int .i64 0, .string da], .int .i64 0]) ?_ rfl ⟨by rw [ZZ.out.1, ZZ.out.2], ?_⟩
      · simp [results, Try.results11, go_sem, r0, r1, r2, r3, r4, r5]
      · go_grown
    · have hf2 : (fv != 0) = true := by simp [hfv]
      have Z9 := HNs.out fv HC.out hfv
      have ZZ : Hid (grL (grR s) = #[.bool false, .bool false, .int .i64 0, .bool false, .int .i64 0, .string ⟨#[]⟩] ∧ grC s = fv) := ⟨by rw [Z9.1]; rfl, Z9.2⟩
      clear Z9 hfv HYs HNs HC
      go_wp2
      refine bodyPost_ret (v := .tuple #[.agg #[.bool false, .bool false, .int .i64 0, .bool false, .int .i64 0, .string ⟨#[]⟩], .int .i64 fv]) ?_ rfl ⟨by rw [ZZ.out.1, ZZ.out.2], ?_⟩
      · simp [results, Try.results11, go_sem, r0, r1, r2, r3, r4, r5]
      · go_grown
  · rw [HN.out (by omega)] at rd2
    have Z9 := gr_no (s := s) (k := 1) (by unfold grC; rw [hpD, if_neg h8]) (by decide)
    have ZZ : Hid (grL (grR s) = #[.bool false, .bool false, .int .i64 0, .bool false, .int .i64 0, .string ⟨#[]⟩] ∧ grC s = 1) := ⟨by rw [Z9.1]; rfl, Z9.2⟩
    clear Z9 HY HN CP CN CR hm0 hm1 m7 m5 m4
    have r0 := hR.out.2 0 _ rfl
    have r1 := hR.out.2 1 _ rfl
    have r2 := hR.out.2 2 _ rfl
    have r3 := hR.out.2 3 _ rfl
    have r4 := hR.out.2 4 _ rfl
    have r5 := hR.out.2 5 _ rfl
    have v0 := hR.fr.2 0
    have v1 := hR.fr.2 1
    have v2 := hR.fr.2 2
    have v3 := hR.fr.2 3
    have v4 := hR.fr.2 4
    have v5 := hR.fr.2 5
    have hB := hR.below
    clear hR hG
    go_wp2
    refine bodyPost_ret (v := .tuple #[.agg #[.bool false, .bool false, .int .i64 0, .bool false, .int .i64 0, .string ⟨#[]⟩], .int .i64 1]) ?_ rfl ⟨by rw [ZZ.out.1, ZZ.out.2], ?_⟩
    · simp [results, Try.results11, go_sem, r0, r1, r2, r3, r4, r5]
    · go_grown
set_option maxRecDepth 100000 in
set_option maxHeartbeats 3200000 in
theorem i_RG011 (s : ByteArray) (w : World) (hs : s.size ≤ 1048576) (hga : gra s = false) (hgb : grb s = true) (hgc : grc s = true) :
    Calls Try.prog 11 #[.string s] w fun e w' => e = .returned (.tuple #[.agg (grL (grR s)), .int .i64 (grC s)]) ∧ Below w.heap.size w w' := by
  have hpD : gpD s = 12 := by unfold gpD gpS gpK; rw [hga, hgb, hgc]; rfl
  have hmb := numAt_bd s 0 1
  have hm0 : 0 ≤ numAt s 0 1 := hmb.1
  have hm1 : numAt s 0 1 < 256 := hmb.2
  clear hmb
  have m7 : bits .and .i64 (numAt s 0 1) 128 = 0 := by
    rw [and_m7 hm0 (by omega)]
    have : decide (numAt s 0 1 / 128 % 2 = 1) = false := hga
    rw [if_neg (of_decide_eq_false this)]
  have m5 : bits .and .i64 (numAt s 0 1) 32 = 32 := by
    rw [and_m5 hm0 (by omega)]
    have : decide (numAt s 0 1 / 32 % 2 = 1) = true := hgb
    rw [if_pos (of_decide_eq_true this)]
  have m4 : bits .and .i64 (numAt s 0 1) 16 = 16 := by
    rw [and_m4 hm0 (by omega)]
    have : decide (numAt s 0 1 / 16 % 2 = 1) = true := hgc
    rw [if_pos (of_decide_eq_true this)]
  have HY : Hid ((12 : Int) ≤ s.size → (nxP s (nxP s (nxP s (nxP s 0 1) 3) 4) 4) = 12 ∧ (nxF s (nxP s (nxP s (nxP s 0 1) 3) 4) 4 (nxF s (nxP s (nxP s 0 1) 3) 4 (nxF s (nxP s 0 1) 3 (nxF s 0 1 false)))) = false ∧ (nxP s 0 1) = 1 ∧ (nxP s (nxP s 0 1) 3) = 4 ∧ (nxP s (nxP s (nxP s 0 1) 3) 4) = 8) := fun h => by
    have := ch_yes s [1, 3, 4, 4] 0 false (by simp) (by simpa using h)
    refine ⟨this.1, this.2, ?_, ?_, ?_⟩
    · exact (ch_yes s [1] 0 false (by simp) (by simp; omega)).1
    · exact (ch_yes s [1, 3] 0 false (by simp) (by simp; omega)).1
    · exact (ch_yes s [1, 3, 4] 0 false (by simp) (by simp; omega)).1
  have HN : Hid ((s.size : Int) < 12 → (nxF s (nxP s (nxP s (nxP s 0 1) 3) 4) 4 (nxF s (nxP s (nxP s 0 1) 3) 4 (nxF s (nxP s 0 1) 3 (nxF s 0 1 false)))) = true) := fun h => ch_no s [1, 3, 4, 4] 0 false (by omega) (by simpa using h)
  have CP : Hid (∀ (p k : Int) (f : Bool) (u : World), Bx u (w.heap.size + 1) (rdx s p f) → Fx u (w.heap.size + 1) → 0 ≤ p → p ≤ s.size → 0 ≤ k → k ≤ 1099511627776 → Calls Try.prog 34 #[.pointer (some ⟨w.heap.size + 1, 0, none⟩), .int .i64 k] u fun e w' => e = .returned (.string (pieceAt s p k)) ∧ RxTo u w' (w.heap.size + 1) s (nxP s p k) (nxF s p k f)) := fun p k f u h1 h2 h3 h4 h5 h6 => i_rdPiece s p k f _ u h1 h2 h3 h4 h5 h6 (by omega)
  have CN : Hid (∀ (p k : Int) (f : Bool) (u : World), Bx u (w.heap.size + 1) (rdx s p f) → Fx u (w.heap.size + 1) → 0 ≤ p → p ≤ s.size → 1 ≤ k → k ≤ 7 → Calls Try.prog 33 #[.pointer (some ⟨w.heap.size + 1, 0, none⟩), .int .i64 k] u fun e w' => e = .returned (.int .i64 (numAt s p k)) ∧ RxTo u w' (w.heap.size + 1) s (nxP s p k) (nxF s p k f)) := fun p k f u h1 h2 h3 h4 h5 h6 => i_rdNumber s p k f _ u h1 h2 h3 h4 h5 h6 (by omega)
  have CR : Hid (∀ (p : Int) (f : Bool) (u : World), Bx u (w.heap.size + 1) (rdx s p f) → 0 ≤ p → p ≤ s.size → Calls Try.prog 35 #[.pointer (some ⟨w.heap.size + 1, 0, none⟩)] u fun e w' => e = .returned (.string (s.extract p.toNat s.size)) ∧ Below u.heap.size u w') := fun p f u h1 h2 h3 => i_rdRest s p f _ u h1 h2 h3 (by omega)
  have hR : RG w.heap.size [.bool false, .bool false, .int .i64 0, .bool false, .int .i64 0, .string ⟨#[]⟩] w ((w.alloc (.cells #[.bool false, .bool false, .int .i64 0, .bool false, .int .i64 0, .string ⟨#[]⟩] 23)).alloc (.cells #[.string s, .int .i64 0, .bool false] 53)) s 0 false := by
    have hb0 : Below w.heap.size w (w.alloc (.cells #[.bool false, .bool false, .int .i64 0, .bool false, .int .i64 0, .string ⟨#[]⟩] 23)) := (Below.refl _ w).alloc (Nat.le_refl _) _
    have h1 := Bx.new (w.alloc (.cells #[.bool false, .bool false, .int .i64 0, .bool false, .int .i64 0, .string ⟨#[]⟩] 23)) #[.string s, .int .i64 0, .bool false] 53
    have h2 := Fx.new (w.alloc (.cells #[.bool false, .bool false, .int .i64 0, .bool false, .int .i64 0, .string ⟨#[]⟩] 23)) #[.string s, .int .i64 0, .bool false] 53
    have e : (w.alloc (.cells #[.bool false, .bool false, .int .i64 0, .bool false, .int .i64 0, .string ⟨#[]⟩] 23)).heap.size = w.heap.size + 1 := by simp
    rw [e] at h1 h2
    exact ⟨hb0.alloc (by simp) _, rfl, h1, h2, (Bx.new w #[.bool false, .bool false, .int .i64 0, .bool false, .int .i64 0, .string ⟨#[]⟩] _).below ((Below.refl _ _).alloc (Nat.le_refl _) _), (Fx.new w #[.bool false, .bool false, .int .i64 0, .bool false, .int .i64 0, .string ⟨#[]⟩] _).below ((Below.refl _ _).alloc (Nat.le_refl _) _)⟩
  have i1 := nxP_in (s := s) (p := 0) (k := 1) (by omega) (by omega) (by omega)
  have i2 := nxP_in (s := s) (p := (nxP s 0 1)) (k := 3) i1.1 i1.2 (by omega)
  have i3 := nxP_in (s := s) (p := (nxP s (nxP s 0 1) 3)) (k := 4) i2.1 i2.2 (by omega)
  have i4 := nxP_in (s := s) (p := (nxP s (nxP s (nxP s 0 1) 3) 4)) (k := 4) i3.1 i3.2 (by omega)
  go_enter Try.func11, Try.ntmps11
  go_wp2_with fail
  go_at_call 33
  refine (CN.out 0 1 false _ hR.rd hR.rf (by omega) (by omega) (by omega) (by omega)).mono ?_
  rintro e w1 ⟨rfl, hX⟩
  replace hR := hR.read hX
  clear hX
  go_wp2_with fail
  go_at_call 34
  refine (CP.out _ 3 _ _ hR.rd hR.rf i1.1 i1.2 (by omega) (by omega)).mono ?_
  rintro e w2 ⟨rfl, hX⟩
  replace hR := hR.read hX
  clear hX
  have hG : Gx w.heap.size (w2.alloc (.cells #[.bool false, .bool true, .int .i64 0, .bool true, .int .i64 0, .string ⟨#[]⟩] 23)) w2.heap.size [.bool false, .bool true, .int .i64 0, .bool true, .int .i64 0, .string ⟨#[]⟩] := ⟨Bx.new w2 _ _, Fx.new w2 _ _, by have := hR.rd.1; omega⟩
  replace hR := hR.more ((Below.refl _ w2).alloc (Nat.le_refl _) (.cells #[.bool false, .bool true, .int .i64 0, .bool true, .int .i64 0, .string ⟨#[]⟩] 23))
  go_wp2_with fail
  generalize hW : w2.alloc (.cells #[.bool false, .bool true, .int .i64 0, .bool true, .int .i64 0, .string ⟨#[]⟩] 23) = w3 at *
  clear hW
  generalize w2.heap.size = g at *
  have a0 := hG.bx.2 0 _ rfl
  have a1 := hG.bx.2 1 _ rfl
  have a2 := hG.bx.2 2 _ rfl
  have a3 := hG.bx.2 3 _ rfl
  have a4 := hG.bx.2 4 _ rfl
  have a5 := hG.bx.2 5 _ rfl
  go_at_call 33
  refine (CN.out _ 4 _ _ hR.rd hR.rf i2.1 i2.2 (by omega) (by omega)).mono ?_
  rintro e w4 ⟨rfl, hX⟩
  replace hR := hR.read hX
  replace hG := hG.read hX
  clear hX
  clear a0 a1 a2 a3 a4 a5
  have a0 := hG.bx.2 0 _ rfl
  have a1 := hG.bx.2 1 _ rfl
  have a2 := hG.bx.2 2 _ rfl
  have a3 := hG.bx.2 3 _ rfl
  have a4 := hG.bx.2 4 _ rfl
  have a5 := hG.bx.2 5 _ rfl
  have q2 := hG.fx.2 2
  go_wp2_with fail
  replace hR := hR.set g 2 (.int .i64 (numAt s (nxP s (nxP s 0 1) 3) 4)) hG.lt
  replace hG : Gx w.heap.size _ g [.bool false, .bool true, .int .i64 (numAt s (nxP s (nxP s 0 1) 3) 4), .bool true, .int .i64 0, .string ⟨#[]⟩] := hG.set 2 (.int .i64 (numAt s (nxP s (nxP s 0 1) 3) 4))
  generalize hW : w4.setCell ⟨g, 2, none⟩ (.int .i64 (numAt s (nxP s (nxP s 0 1) 3) 4)) = w5 at *
  clear hW q2
  clear a0 a1 a2 a3 a4 a5
  have a0 := hG.bx.2 0 _ rfl
  have a1 := hG.bx.2 1 _ rfl
  have a2 := hG.bx.2 2 _ rfl
  have a3 := hG.bx.2 3 _ rfl
  have a4 := hG.bx.2 4 _ rfl
  have a5 := hG.bx.2 5 _ rfl
  go_at_call 33
  refine (CN.out _ 4 _ _ hR.rd hR.rf i3.1 i3.2 (by omega) (by omega)).mono ?_
  rintro e w6 ⟨rfl, hX⟩
  replace hR := hR.read hX
  replace hG := hG.read hX
  clear hX
  clear a0 a1 a2 a3 a4 a5
  have a0 := hG.bx.2 0 _ rfl
  have a1 := hG.bx.2 1 _ rfl
  have a2 := hG.bx.2 2 _ rfl
  have a3 := hG.bx.2 3 _ rfl
  have a4 := hG.bx.2 4 _ rfl
  have a5 := hG.bx.2 5 _ rfl
  have q4 := hG.fx.2 4
  go_wp2_with fail
  replace hR := hR.set g 4 (.int .i64 (numAt s (nxP s (nxP s (nxP s 0 1) 3) 4) 4)) hG.lt
  replace hG : Gx w.heap.size _ g [.bool false, .bool true, .int .i64 (numAt s (nxP s (nxP s 0 1) 3) 4), .bool true, .int .i64 (numAt s (nxP s (nxP s (nxP s 0 1) 3) 4) 4), .string ⟨#[]⟩] := hG.set 4 (.int .i64 (numAt s (nxP s (nxP s (nxP s 0 1) 3) 4) 4))
  generalize hW : w6.setCell ⟨g, 4, none⟩ (.int .i64 (numAt s (nxP s (nxP s (nxP s 0 1) 3) 4) 4)) = w7 at *
  clear hW q4
  clear a0 a1 a2 a3 a4 a5
  have a0 := hG.bx.2 0 _ rfl
  have a1 := hG.bx.2 1 _ rfl
  have a2 := hG.bx.2 2 _ rfl
  have a3 := hG.bx.2 3 _ rfl
  have a4 := hG.bx.2 4 _ rfl
  have a5 := hG.bx.2 5 _ rfl
  go_at_call 35
  refine (CR.out _ _ _ hR.rd i4.1 i4.2).mono ?_
  rintro e w8 ⟨rfl, hX⟩
  replace hR := hR.more hX
  replace hG := hG.more hX
  clear hX
  clear a0 a1 a2 a3 a4 a5
  have a0 := hG.bx.2 0 _ rfl
  have a1 := hG.bx.2 1 _ rfl
  have a2 := hG.bx.2 2 _ rfl
  have a3 := hG.bx.2 3 _ rfl
  have a4 := hG.bx.2 4 _ rfl
  have a5 := hG.bx.2 5 _ rfl
  have q5 := hG.fx.2 5
  have rd2 := hR.rd.2 2 _ rfl
  have hgl := hG.lt
  by_cases h8 : 12 ≤ (s.size : Int)
  · have hh := HY.out h8
    rw [hh.2.1] at rd2
    rw [hh.1]
    have HD : Hid (grd s = ⟨false, true, numAt s 4 4, true, numAt s 8 4, s.extract 12 s.size⟩) := by
      show _ = _
      have e1 : gpK s = 4 := by unfold gpK; rw [hga]; rfl
      have e2 : gpS s = 8 := by unfold gpS; rw [hgb, e1]; rfl
      unfold grd; rw [hga, hgb, hgc, hpD, e1, e2]; rfl
    have HV : Hid (gsv s = 0) := by show _ = _; unfold gsv; rw [hga]; rfl
    have bv := gsv_bd s
    have bk := grd_key s
    have bd := grd_data s
    have CF : Hid (∀ u : World, Calls Try.prog 36 #[.iface 59 (.agg (grT (grd s) (gsv s))), .string s] u fun e w' => e = .returned (.int .i64 (grF (grd s) (gsv s) s)) ∧ Below u.heap.size u w') := fun u => i_faultGr _ _ s u bv.1 bv.2 bk.1 bk.2 (by omega)
    have HC : Hid (grC s = grF (grd s) (gsv s) s) := by show _ = _; unfold grC grF; rw [hpD, if_pos h8]
    have HYs : Hid (grC s = 0 → grR s = grd s ∧ grC s = 0) := fun h => gr_yes h
    have HNs : Hid (∀ k : Int, grC s = k → ¬ k = 0 → grR s = gr0 ∧ grC s = k) := fun k h hk => gr_no h hk
    generalize grF (grd s) (gsv s) s = fv at *
    rw [HD.out, HV.out] at CF
    simp only [grT] at CF
    clear bv bk bd HN CP CN CR hm0 hm1 m7 m5 m4
    rw [hh.2.2.2.2] at hG a4
    rw [hh.2.2.2.1] at hG a2
    simp only [Int.reduceToNat]
    clear HY hh
    generalize numAt s 4 4 = nk at *
    generalize numAt s 8 4 = ns at *
    generalize s.extract 12 s.size = da at *
    clear i1 i2 i3 i4
    go_wp2_with fail
    replace hR := hR.set g 5 (.string da) hG.lt
    replace hG : Gx w.heap.size _ g [.bool false, .bool true, .int .i64 nk, .bool true, .int .i64 ns, .string da] := hG.set 5 (.string da)
    generalize hW : World.setCell _ ⟨g, 5, none⟩ (.string da) = w99 at *
    clear hW q5 hgl
    go_at_call 36
    refine (CF.out _).mono ?_
    rintro e wf ⟨rfl, hX⟩
    replace hR := hR.more hX
    replace hG := hG.more hX
    clear hX rd2
    clear a0 a1 a2 a3 a4 a5
    have a0 := hG.bx.2 0 _ rfl
    have a1 := hG.bx.2 1 _ rfl
    have a2 := hG.bx.2 2 _ rfl
    have a3 := hG.bx.2 3 _ rfl
    have a4 := hG.bx.2 4 _ rfl
    have a5 := hG.bx.2 5 _ rfl
    have r0 := hR.out.2 0 _ rfl
    have r1 := hR.out.2 1 _ rfl
    have r2 := hR.out.2 2 _ rfl
    have r3 := hR.out.2 3 _ rfl
    have r4 := hR.out.2 4 _ rfl
    have r5 := hR.out.2 5 _ rfl
    have v0 := hR.fr.2 0
    have v1 := hR.fr.2 1
    have v2 := hR.fr.2 2
    have v3 := hR.fr.2 3
    have v4 := hR.fr.2 4
    have v5 := hR.fr.2 5
    have hgl := hG.lt
    have hB := hR.below
    by_cases hfv : fv = 0
    · have hf2 : (fv != 0) = false := by simp [hfv]
      have Z9 := HYs.out (HC.out.trans hfv)
      have ZZ : Hid (grL (grR s) = #[.bool false, .bool true, .int .i64 nk, .bool true, .int .i64 ns, .string da] ∧ grC s = 0) := ⟨by rw [Z9.1, HD.out]; rfl, Z9.2⟩
      clear Z9 hfv HYs HNs HC
      go_wp2
      refine bodyPost_ret (v := .tuple #[.agg #[.bool false, .bool true, .int .i64 nk, .bool true, .int .i64 ns, .string da], .int .i64 0]) ?_ rfl ⟨by rw [ZZ.out.1, ZZ.out.2], ?_⟩
      · simp [results, Try.results11, go_sem, r0, r1, r2, r3, r4, r5]
      · go_grown
    · have hf2 : (fv != 0) = true := by simp [hfv]
      have Z9 := HNs.out fv HC.out hfv
      have ZZ : Hid (grL (grR s) = #[.bool false, .bool false, .int .i64 0, .bool false, .int .i64 0, .string ⟨#[]⟩] ∧ grC s = fv) := ⟨by rw [Z9.1]; rfl, Z9.2⟩
      clear Z9 hfv HYs HNs HC
      go_wp2
      refine bodyPost_ret (v := .tuple #[.agg #[.bool false, .bool false, .int .i64 0, .bool false, .int .i64 0, .string ⟨#[]⟩], .int .i64 fv]) ?_ rfl ⟨by rw [ZZ.out.1, ZZ.out.2], ?_⟩
      · simp [results, Try.results11, go_sem, r0, r1, r2, r3, r4, r5]
      · go_grown
  · rw [HN.out (by omega)] at rd2
    have Z9 := gr_no (s := s) (k := 1) (by unfold grC; rw [hpD, if_neg h8]) (by decide)
    have ZZ : Hid (grL (grR s) = #[.bool false, .bool false, .int .i64 0, .bool false, .int .i64 0, .string ⟨#[]⟩] ∧ grC s = 1) := ⟨by rw [Z9.1]; rfl, Z9.2⟩
    clear Z9 HY HN CP CN CR hm0 hm1 m7 m5 m4
    have r0 := hR.out.2 0 _ rfl
    have r1 := hR.out.2 1 _ rfl
    have r2 := hR.out.2 2 _ rfl
    have r3 := hR.out.2 3 _ rfl
    have r4 := hR.out.2 4 _ rfl
    have r5 := hR.out.2 5 _ rfl
    have v0 := hR.fr.2 0
    have v1 := hR.fr.2 1
    have v2 := hR.fr.2 2
    have v3 := hR.fr.2 3
    have v4 := hR.fr.2 4
    have v5 := hR.fr.2 5
    have hB := hR.below
    clear hR hG
    go_wp2
    refine bodyPost_ret (v := .tuple #[.agg #[.bool false, .bool false, .int .i64 0, .bool false, .int .i64 0, .string ⟨#[]⟩], .int .i64 1]) ?_ rfl ⟨by rw [ZZ.out.1, ZZ.out.2], ?_⟩
    · simp [results, Try.results11, go_sem, r0, r1, r2, r3, r4, r5]
    · go_grown
set_option maxRecDepth 100000 in
set_option maxHeartbeats 3200000 in
theorem i_RG100 (s : ByteArray) (w : World) (hs : s.size ≤ 1048576) (hga : gra s = true) (hgb : grb s = false) (hgc : grc s = false) :
    Calls Try.prog 11 #[.string s] w fun e w' => e = .returned (.tuple #[.agg (grL (grR s)), .int .i64 (grC s)]) ∧ Below w.heap.size w w' := by
  have hpD : gpD s = 8 := by unfold gpD gpS gpK; rw [hga, hgb, hgc]; rfl
  have hmb := numAt_bd s 0 1
  have hm0 : 0 ≤ numAt s 0 1 := hmb.1
  have hm1 : numAt s 0 1 < 256 := hmb.2
  clear hmb
  have m7 : bits .and .i64 (numAt s 0 1) 128 = 128 := by
    rw [and_m7 hm0 (by omega)]
    have : decide (numAt s 0 1 / 128 % 2 = 1) = true := hga
    rw [if_pos (of_decide_eq_true this)]
  have m5 : bits .and .i64 (numAt s 0 1) 32 = 0 := by
    rw [and_m5 hm0 (by omega)]
    have : decide (numAt s 0 1 / 32 % 2 = 1) = false := hgb
    rw [if_neg (of_decide_eq_false this)]
  have m4 : bits .and .i64 (numAt s 0 1) 16 = 0 := by
    rw [and_m4 hm0 (by omega)]
    have : decide (numAt s 0 1 / 16 % 2 = 1) = false := hgc
    rw [if_neg (of_decide_eq_false this)]
  have HY : Hid ((8 : Int) ≤ s.size → (nxP s (nxP s (nxP s (nxP s 0 1) 3) 2) 2) = 8 ∧ (nxF s (nxP s (nxP s (nxP s 0 1) 3) 2) 2 (nxF s (nxP s (nxP s 0 1) 3) 2 (nxF s (nxP s 0 1) 3 (nxF s 0 1 false)))) = false ∧ (nxP s 0 1) = 1 ∧ (nxP s (nxP s 0 1) 3) = 4 ∧ (nxP s (nxP s (nxP s 0 1) 3) 2) = 6) := fun h => by
    have := ch_yes s [1, 3, 2, 2] 0 false (by simp) (by simpa using h)
    refine ⟨this.1, this.2, ?_, ?_, ?_⟩
    · exact (ch_yes s [1] 0 false (by simp) (by simp; omega)).1
    · exact (ch_yes s [1, 3] 0 false (by simp) (by simp; omega)).1
    · exact (ch_yes s [1, 3, 2] 0 false (by simp) (by simp; omega)).1
  have HN : Hid ((s.size : Int) < 8 → (nxF s (nxP s (nxP s (nxP s 0 1) 3) 2) 2 (nxF s (nxP s (nxP s 0 1) 3) 2 (nxF s (nxP s 0 1) 3 (nxF s 0 1 false)))) = true) := fun h => ch_no s [1, 3, 2, 2] 0 false (by omega) (by simpa using h)
  have CP : Hid (∀ (p k : Int) (f : Bool) (u : World), Bx u (w.heap.size + 1) (rdx s p f) → Fx u (w.heap.size + 1) → 0 ≤ p → p ≤ s.size → 0 ≤ k → k ≤ 1099511627776 → Calls Try.prog 34 #[.pointer (some ⟨w.heap.size + 1, 0, none⟩), .int .i64 k] u fun e w' => e = .returned (.string (pieceAt s p k)) ∧ RxTo u w' (w.heap.size + 1) s (nxP s p k) (nxF s p k f)) := fun p k f u h1 h2 h3 h4 h5 h6 => i_rdPiece s p k f _ u h1 h2 h3 h4 h5 h6 (by omega)
  have CN : Hid (∀ (p k : Int) (f : Bool) (u : World), Bx u (w.heap.size + 1) (rdx s p f) → Fx u (w.heap.size + 1) → 0 ≤ p → p ≤ s.size → 1 ≤ k → k ≤ 7 → Calls Try.prog 33 #[.pointer (some ⟨w.heap.size + 1, 0, none⟩), .int .i64 k] u fun e w' => e = .returned (.int .i64 (numAt s p k)) ∧ RxTo u w' (w.heap.size + 1) s (nxP s p k) (nxF s p k f)) := fun p k f u h1 h2 h3 h4 h5 h6 => i_rdNumber s p k f _ u h1 h2 h3 h4 h5 h6 (by omega)
  have CR : Hid (∀ (p : Int) (f : Bool) (u : World), Bx u (w.heap.size + 1) (rdx s p f) → 0 ≤ p → p ≤ s.size → Calls Try.prog 35 #[.pointer (some ⟨w.heap.size + 1, 0, none⟩)] u fun e w' => e = .returned (.string (s.extract p.toNat s.size)) ∧ Below u.heap.size u w') := fun p f u h1 h2 h3 => i_rdRest s p f _ u h1 h2 h3 (by omega)
  have hR : RG w.heap.size [.bool false, .bool false, .int .i64 0, .bool false, .int .i64 0, .string ⟨#[]⟩] w ((w.alloc (.cells #[.bool false, .bool false, .int .i64 0, .bool false, .int .i64 0, .string ⟨#[]⟩] 23)).alloc (.cells #[.string s, .int .i64 0, .bool false] 53)) s 0 false := by
    have hb0 : Below w.heap.size w (w.alloc (.cells #[.bool false, .bool false, .int .i64 0, .bool false, .int .i64 0, .string ⟨#[]⟩] 23)) := (Below.refl _ w).alloc (Nat.le_refl _) _
    have h1 := Bx.new (w.alloc (.cells #[.bool false, .bool false, .int .i64 0, .bool false, .int .i64 0, .string ⟨#[]⟩] 23)) #[.string s, .int .i64 0, .bool false] 53
    have h2 := Fx.new (w.alloc (.cells #[.bool false, .bool false, .int .i64 0, .bool false, .int .i64 0, .string ⟨#[]⟩] 23)) #[.string s, .int .i64 0, .bool false] 53
    have e : (w.alloc (.cells #[.bool false, .bool false, .int .i64 0, .bool false, .int .i64 0, .string ⟨#[]⟩] 23)).heap.size = w.heap.size + 1 := by simp
    rw [e] at h1 h2
    exact ⟨hb0.alloc (by simp) _, rfl, h1, h2, (Bx.new w #[.bool false, .bool false, .int .i64 0, .bool false, .int .i64 0, .string ⟨#[]⟩] _).below ((Below.refl _ _).alloc (Nat.le_refl _) _), (Fx.new w #[.bool false, .bool false, .int .i64 0, .bool false, .int .i64 0, .string ⟨#[]⟩] _).below ((Below.refl _ _).alloc (Nat.le_refl _) _)⟩
  have i1 := nxP_in (s := s) (p := 0) (k := 1) (by omega) (by omega) (by omega)
  have i2 := nxP_in (s := s) (p := (nxP s 0 1)) (k := 3) i1.1 i1.2 (by omega)
  have i3 := nxP_in (s := s) (p := (nxP s (nxP s 0 1) 3)) (k := 2) i2.1 i2.2 (by omega)
  have i4 := nxP_in (s := s) (p := (nxP s (nxP s (nxP s 0 1) 3) 2)) (k := 2) i3.1 i3.2 (by omega)
  go_enter Try.func11, Try.ntmps11
  go_wp2_with fail
  go_at_call 33
  refine (CN.out 0 1 false _ hR.rd hR.rf (by omega) (by omega) (by omega) (by omega)).mono ?_
  rintro e w1 ⟨rfl, hX⟩
  replace hR := hR.read hX
  clear hX
  go_wp2_with fail
  go_at_call 34
  refine (CP.out _ 3 _ _ hR.rd hR.rf i1.1 i1.2 (by omega) (by omega)).mono ?_
  rintro e w2 ⟨rfl, hX⟩
  replace hR := hR.read hX
  clear hX
  have hG : Gx w.heap.size (w2.alloc (.cells #[.bool true, .bool false, .int .i64 0, .bool false, .int .i64 0, .string ⟨#[]⟩] 23)) w2.heap.size [.bool true, .bool false, .int .i64 0, .bool false, .int .i64 0, .string ⟨#[]⟩] := ⟨Bx.new w2 _ _, Fx.new w2 _ _, by have := hR.rd.1; omega⟩
  replace hR := hR.more ((Below.refl _ w2).alloc (Nat.le_refl _) (.cells #[.bool true, .bool false, .int .i64 0, .bool false, .int .i64 0, .string ⟨#[]⟩] 23))
  go_wp2_with fail
  generalize hW : w2.alloc (.cells #[.bool true, .bool false, .int .i64 0, .bool false, .int .i64 0, .string ⟨#[]⟩] 23) = w3 at *
  clear hW
  generalize w2.heap.size = g at *
  have a0 := hG.bx.2 0 _ rfl
  have a1 := hG.bx.2 1 _ rfl
  have a2 := hG.bx.2 2 _ rfl
  have a3 := hG.bx.2 3 _ rfl
  have a4 := hG.bx.2 4 _ rfl
  have a5 := hG.bx.2 5 _ rfl
  go_at_call 33
  refine (CN.out _ 2 _ _ hR.rd hR.rf i2.1 i2.2 (by omega) (by omega)).mono ?_
  rintro e w4 ⟨rfl, hX⟩
  replace hR := hR.read hX
  replace hG := hG.read hX
  clear hX
  clear a0 a1 a2 a3 a4 a5
  have a0 := hG.bx.2 0 _ rfl
  have a1 := hG.bx.2 1 _ rfl
  have a2 := hG.bx.2 2 _ rfl
  have a3 := hG.bx.2 3 _ rfl
  have a4 := hG.bx.2 4 _ rfl
  have a5 := hG.bx.2 5 _ rfl
  go_wp2_with fail
  go_at_call 34
  refine (CP.out _ 2 _ _ hR.rd hR.rf i3.1 i3.2 (by omega) (by omega)).mono ?_
  rintro e w5 ⟨rfl, hX⟩
  replace hR := hR.read hX
  replace hG := hG.read hX
  clear hX
  clear a0 a1 a2 a3 a4 a5
  have a0 := hG.bx.2 0 _ rfl
  have a1 := hG.bx.2 1 _ rfl
  have a2 := hG.bx.2 2 _ rfl
  have a3 := hG.bx.2 3 _ rfl
  have a4 := hG.bx.2 4 _ rfl
  have a5 := hG.bx.2 5 _ rfl
  go_wp2_with fail
  go_at_call 35
  refine (CR.out _ _ _ hR.rd i4.1 i4.2).mono ?_
  rintro e w6 ⟨rfl, hX⟩
  replace hR := hR.more hX
  replace hG := hG.more hX
  clear hX
  clear a0 a1 a2 a3 a4 a5
  have a0 := hG.bx.2 0 _ rfl
  have a1 := hG.bx.2 1 _ rfl
  have a2 := hG.bx.2 2 _ rfl
  have a3 := hG.bx.2 3 _ rfl
  have a4 := hG.bx.2 4 _ rfl
  have a5 := hG.bx.2 5 _ rfl
  have q5 := hG.fx.2 5
  have rd2 := hR.rd.2 2 _ rfl
  have hgl := hG.lt
  by_cases h8 : 8 ≤ (s.size : Int)
  · have hh := HY.out h8
    rw [hh.2.1] at rd2
    rw [hh.1]
    have HD : Hid (grd s = ⟨true, false, 0, false, 0, s.extract 8 s.size⟩) := by
      show _ = _
      have e1 : gpK s = 8 := by unfold gpK; rw [hga]; rfl
      have e2 : gpS s = 8 := by unfold gpS; rw [hgb, e1]; rfl
      unfold grd; rw [hga, hgb, hgc, hpD, e1, e2]; rfl
    have HV : Hid (gsv s = numAt s 4 2) := by show _ = _; unfold gsv; rw [hga]; rfl
    have bv := gsv_bd s
    have bk := grd_key s
    have bd := grd_data s
    have CF : Hid (∀ u : World, Calls Try.prog 36 #[.iface 59 (.agg (grT (grd s) (gsv s))), .string s] u fun e w' => e = .returned (.int .i64 (grF (grd s) (gsv s) s)) ∧ Below u.heap.size u w') := fun u => i_faultGr _ _ s u bv.1 bv.2 bk.1 bk.2 (by omega)
    have HC : Hid (grC s = grF (grd s) (gsv s) s) := by show _ = _; unfold grC grF; rw [hpD, if_pos h8]
    have HYs : Hid (grC s = 0 → grR s = grd s ∧ grC s = 0) := fun h => gr_yes h
    have HNs : Hid (∀ k : Int, grC s = k → ¬ k = 0 → grR s = gr0 ∧ grC s = k) := fun k h hk => gr_no h hk
    generalize grF (grd s) (gsv s) s = fv at *
    rw [HD.out, HV.out] at CF
    simp only [grT] at CF
    clear bv bk bd HN CP CN CR hm0 hm1 m7 m5 m4
    rw [hh.2.2.2.1]
    simp only [Int.reduceToNat]
    clear HY hh
    generalize numAt s 4 2 = nv at *
    generalize s.extract 8 s.size = da at *
    clear i1 i2 i3 i4
    go_wp2_with fail
    replace hR := hR.set g 5 (.string da) hG.lt
    replace hG : Gx w.heap.size _ g [.bool true, .bool false, .int .i64 0, .bool false, .int .i64 0, .string da] := hG.set 5 (.string da)
    generalize hW : World.setCell _ ⟨g, 5, none⟩ (.string da) = w99 at *
    clear hW q5 hgl
    go_at_call 36
    refine (CF.out _).mono ?_
    rintro e wf ⟨rfl, hX⟩
    replace hR := hR.more hX
    replace hG := hG.more hX
    clear hX rd2
    clear a0 a1 a2 a3 a4 a5
    have a0 := hG.bx.2 0 _ rfl
    have a1 := hG.bx.2 1 _ rfl
    have a2 := hG.bx.2 2 _ rfl
    have a3 := hG.bx.2 3 _ rfl
    have a4 := hG.bx.2 4 _ rfl
    have a5 := hG.bx.2 5 _ rfl
    have r0 := hR.out.2 0 _ rfl
    have r1 := hR.out.2 1 _ rfl
    have r2 := hR.out.2 2 _ rfl
    have r3 := hR.out.2 3 _ rfl
    have r4 := hR.out.2 4 _ rfl
    have r5 := hR.out.2 5 _ rfl
    have v0 := hR.fr.2 0
    have v1 := hR.fr.2 1
    have v2 := hR.fr.2 2
    have v3 := hR.fr.2 3
    have v4 := hR.fr.2 4
    have v5 := hR.fr.2 5
    have hgl := hG.lt
    have hB := hR.below
    by_cases hfv : fv = 0
    · have hf2 : (fv != 0) = false := by simp [hfv]
      have Z9 := HYs.out (HC.out.trans hfv)
      have ZZ : Hid (grL (grR s) = #[.bool true, .bool false, .int .i64 0, .bool false, .int .i64 0, .string da] ∧ grC s = 0) := ⟨by rw [Z9.1, HD.out]; rfl, Z9.2⟩
      clear Z9 hfv HYs HNs HC
      go_wp2
      refine bodyPost_ret (v := .tuple #[.agg #[.bool true, .bool false, .int .i64 0, .bool false, .int .i64 0, .string da], .int .i64 0]) ?_ rfl ⟨by rw [ZZ.out.1, ZZ.out.2], ?_⟩
      · simp [results, Try.results11, go_sem, r0, r1, r2, r3, r4, r5]
      · go_grown
    · have hf2 : (fv != 0) = true := by simp [hfv]
      have Z9 := HNs.out fv HC.out hfv
      have ZZ : Hid (grL (grR s) = #[.bool false, .bool false, .int .i64 0, .bool false, .int .i64 0, .string ⟨#[]⟩] ∧ grC s = fv) := ⟨by rw [Z9.1]; rfl, Z9.2⟩
      clear Z9 hfv HYs HNs HC
      go_wp2
      refine bodyPost_ret (v := .tuple #[.agg #[.bool false, .bool false, .int .i64 0, .bool false, .int .i64 0, .string ⟨#[]⟩], .int .i64 fv]) ?_ rfl ⟨by rw [ZZ.out.1, ZZ.out.2], ?_⟩
      · simp [results, Try.results11, go_sem, r0, r1, r2, r3, r4, r5]
      · go_grown
  · rw [HN.out (by omega)] at rd2
    have Z9 := gr_no (s := s) (k := 1) (by unfold grC; rw [hpD, if_neg h8]) (by decide)
    have ZZ : Hid (grL (grR s) = #[.bool false, .bool false, .int .i64 0, .bool false, .int .i64 0, .string ⟨#[]⟩] ∧ grC s = 1) := ⟨by rw [Z9.1]; rfl, Z9.2⟩
    clear Z9 HY HN CP CN CR hm0 hm1 m7 m5 m4
    have r0 := hR.out.2 0 _ rfl
    have r1 := hR.out.2 1 _ rfl
    have r2 := hR.out.2 2 _ rfl
    have r3 := hR.out.2 3 _ rfl
    have r4 := hR.out.2 4 _ rfl
    have r5 := hR.out.2 5 _ rfl
    have v0 := hR.fr.2 0
    have v1 := hR.fr.2 1
    have v2 := hR.fr.2 2
    have v3 := hR.fr.2 3
    have v4 := hR.fr.2 4
    have v5 := hR.fr.2 5
    have hB := hR.below
    clear hR hG
    go_wp2
    refine bodyPost_ret (v := .tuple #[.agg #[.bool false, .bool false, .int .i64 0, .bool false, .int .i64 0, .string ⟨#[]⟩], .int .i64 1]) ?_ rfl ⟨by rw [ZZ.out.1, ZZ.out.2], ?_⟩
    · simp [results, Try.results11, go_sem, r0, r1, r2, r3, r4, r5]
    · go_grown
set_option maxRecDepth 100000 in
set_option maxHeartbeats 3200000 in
theorem i_RG101 (s : ByteArray) (w : World) (hs : s.size ≤ 1048576) (hga : gra s = true) (hgb : grb s = false) (hgc : grc s = true) :
    Calls Try.prog 11 #[.string s] w fun e w' => e = .returned (.tuple #[.agg (grL (grR s)), .int .i64 (grC s)]) ∧ Below w.heap.size w w' := by
  have hpD : gpD s = 12 := by unfold gpD gpS gpK; rw [hga, hgb, hgc]; rfl
  have hmb := numAt_bd s 0 1
  have hm0 : 0 ≤ numAt s 0 1 := hmb.1
  have hm1 : numAt s 0 1 < 256 := hmb.2
  clear hmb
  have m7 : bits .and .i64 (numAt s 0 1) 128 = 128 := by
    rw [and_m7 hm0 (by omega)]
    have : decide (numAt s 0 1 / 128 % 2 = 1) = true := hga
    rw [if_pos (of_decide_eq_true this)]
  have m5 : bits .and .i64 (numAt s 0 1) 32 = 0 := by
    rw [and_m5 hm0 (by omega)]
    have : decide (numAt s 0 1 / 32 % 2 = 1) = false := hgb
    rw [if_neg (of_decide_eq_false this)]
  have m4 : bits .and .i64 (numAt s 0 1) 16 = 16 := by
    rw [and_m4 hm0 (by omega)]
    have : decide (numAt s 0 1 / 16 % 2 = 1) = true := hgc
    rw [if_pos (of_decide_eq_true this)]
  have HY : Hid ((12 : Int) ≤ s.size → (nxP s (nxP s (nxP s (nxP s (nxP s 0 1) 3) 2) 2) 4) = 12 ∧ (nxF s (nxP s (nxP s (nxP s (nxP s 0 1) 3) 2) 2) 4 (nxF s (nxP s (nxP s (nxP s 0 1) 3) 2) 2 (nxF s (nxP s (nxP s 0 1) 3) 2 (nxF s (nxP s 0 1) 3 (nxF s 0 1 false))))) = false ∧ (nxP s 0 1) = 1 ∧ (nxP s (nxP s 0 1) 3) = 4 ∧ (nxP s (nxP s (nxP s 0 1) 3) 2) = 6 ∧ (nxP s (nxP s (nxP s (nxP s 0 1) 3) 2) 2) = 8) := fun h => by
    have := ch_yes s [1, 3, 2, 2, 4] 0 false (by simp) (by simpa using h)
    refine ⟨this.1, this.2, ?_, ?_, ?_, ?_⟩
    · exact (ch_yes s [1] 0 false (by simp) (by simp; omega)).1
    · exact (ch_yes s [1, 3] 0 false (by simp) (by simp; omega)).1
    · exact (ch_yes s [1, 3, 2] 0 false (by simp) (by simp; omega)).1
    · exact (ch_yes s [1, 3, 2, 2] 0 false (by simp) (by simp; omega)).1
  have HN : Hid ((s.size : Int) < 12 → (nxF s (nxP s (nxP s (nxP s (nxP s 0 1) 3) 2) 2) 4 (nxF s (nxP s (nxP s (nxP s 0 1) 3) 2) 2 (nxF s (nxP s (nxP s 0 1) 3) 2 (nxF s (nxP s 0 1) 3 (nxF s 0 1 false))))) = true) := fun h => ch_no s [1, 3, 2, 2, 4] 0 false (by omega) (by simpa using h)
  have CP : Hid (∀ (p k : Int) (f : Bool) (u : World), Bx u (w.heap.size + 1) (rdx s p f) → Fx u (w.heap.size + 1) → 0 ≤ p → p ≤ s.size → 0 ≤ k → k ≤ 1099511627776 → Calls Try.prog 34 #[.pointer (some ⟨w.heap.size + 1, 0, none⟩), .int .i64 k] u fun e w' => e = .returned (.string (pieceAt s p k)) ∧ RxTo u w' (w.heap.size + 1) s (nxP s p k) (nxF s p k f)) := fun p k f u h1 h2 h3 h4 h5 h6 => i_rdPiece s p k f _ u h1 h2 h3 h4 h5 h6 (by omega)
  have CN : Hid (∀ (p k : Int) (f : Bool) (u : World), Bx u (w.heap.size + 1) (rdx s p f) → Fx u (w.heap.size + 1) → 0 ≤ p → p ≤ s.size → 1 ≤ k → k ≤ 7 → Calls Try.prog 33 #[.pointer (some ⟨w.heap.size + 1, 0, none⟩), .int .i64 k] u fun e w' => e = .returned (.int .i64 (numAt s p k)) ∧ RxTo u w' (w.heap.size + 1) s (nxP s p k) (nxF s p k f)) := fun p k f u h1 h2 h3 h4 h5 h6 => i_rdNumber s p k f _ u h1 h2 h3 h4 h5 h6 (by omega)
  have CR : Hid (∀ (p : Int) (f : Bool) (u : World), Bx u (w.heap.size + 1) (rdx s p f) → 0 ≤ p → p ≤ s.size → Calls Try.prog 35 #[.pointer (some ⟨w.heap.size + 1, 0, none⟩)] u fun e w' => e = .returned (.string (s.extract p.toNat s.size)) ∧ Below u.heap.size u w') := fun p f u h1 h2 h3 => i_rdRest s p f _ u h1 h2 h3 (by omega)
  have hR : RG w.heap.size [.bool false, .bool false, .int .i64 0, .bool false, .int .i64 0, .string ⟨#[]⟩] w ((w.alloc (.cells #[.bool false, .bool false, .int .i64 0, .bool false, .int .i64 0, .string ⟨#[]⟩] 23)).alloc (.cells #[.string s, .int .i64 0, .bool false] 53)) s 0 false := by
    have hb0 : Below w.heap.size w (w.alloc (.cells #[.bool false, .bool false, .int .i64 0, .bool false, .int .i64 0, .string ⟨#[]⟩] 23)) := (Below.refl _ w).alloc (Nat.le_refl _) _
    have h1 := Bx.new (w.alloc (.cells #[.bool false, .bool false, .int .i64 0, .bool false, .int .i64 0, .string ⟨#[]⟩] 23)) #[.string s, .int .i64 0, .bool false] 53
    have h2 := Fx.new (w.alloc (.cells #[.bool false, .bool false, .int .i64 0, .bool false, .int .i64 0, .string ⟨#[]⟩] 23)) #[.string s, .int .i64 0, .bool false] 53
    have e : (w.alloc (.cells #[.bool false, .bool false, .int .i64 0, .bool false, .int .i64 0, .string ⟨#[]⟩] 23)).heap.size = w.heap.size + 1 := by simp
    rw [e] at h1 h2
    exact ⟨hb0.alloc (by simp) _, rfl, h1, h2, (Bx.new w #[.bool false, .bool false, .int .i64 0, .bool false, .int .i64 0, .string ⟨#[]⟩] _).below ((Below.refl _ _).alloc (Nat.le_refl _) _), (Fx.new w #[.bool false, .bool false, .int .i64 0, .bool false, .int .i64 0, .string ⟨#[]⟩] _).below ((Below.refl _ _).alloc (Nat.le_refl _) _)⟩
  have i1 := nxP_in (s := s) (p := 0) (k := 1) (by omega) (by omega) (by omega)
  have i2 := nxP_in (s := s) (p := (nxP s 0 1)) (k := 3) i1.1 i1.2 (by omega)
  have i3 := nxP_in (s := s) (p := (nxP s (nxP s 0 1) 3)) (k := 2) i2.1 i2.2 (by omega)
  have i4 := nxP_in (s := s) (p := (nxP s (nxP s (nxP s 0 1) 3) 2)) (k := 2) i3.1 i3.2 (by omega)
  have i5 := nxP_in (s := s) (p := (nxP s (nxP s (nxP s (nxP s 0 1) 3) 2) 2)) (k := 4) i4.1 i4.2 (by omega)
  go_enter Try.func11, Try.ntmps11
  go_wp2_with fail
  go_at_call 33
  refine (CN.out 0 1 false _ hR.rd hR.rf (by omega) (by omega) (by omega) (by omega)).mono ?_
  rintro e w1 ⟨rfl, hX⟩
  replace hR := hR.read hX
  clear hX
  go_wp2_with fail
  go_at_call 34
  refine (CP.out _ 3 _ _ hR.rd hR.rf i1.1 i1.2 (by omega) (by omega)).mono ?_
  rintro e w2 ⟨rfl, hX⟩
  replace hR := hR.read hX
  clear hX
  have hG : Gx w.heap.size (w2.alloc (.cells #[.bool true, .bool false, .int .i64 0, .bool true, .int .i64 0, .string ⟨#[]⟩] 23)) w2.heap.size [.bool true, .bool false, .int .i64 0, .bool true, .int .i64 0, .string ⟨#[]⟩] := ⟨Bx.new w2 _ _, Fx.new w2 _ _, by have := hR.rd.1; omega⟩
  replace hR := hR.more ((Below.refl _ w2).alloc (Nat.le_refl _) (.cells #[.bool true, .bool false, .int .i64 0, .bool true, .int .i64 0, .string ⟨#[]⟩] 23))
  go_wp2_with fail
  generalize hW : w2.alloc (.cells #[.bool true, .bool false, .int .i64 0, .bool true, .int .i64 0, .string ⟨#[]⟩] 23) = w3 at *
  clear hW
  generalize w2.heap.size = g at *
  have a0 := hG.bx.2 0 _ rfl
  have a1 := hG.bx.2 1 _ rfl
  have a2 := hG.bx.2 2 _ rfl
  have a3 := hG.bx.2 3 _ rfl
  have a4 := hG.bx.2 4 _ rfl
  have a5 := hG.bx.2 5 _ rfl
  go_at_call 33
  refine (CN.out _ 2 _ _ hR.rd hR.rf i2.1 i2.2 (by omega) (by omega)).mono ?_
  rintro e w4 ⟨rfl, hX⟩
  replace hR := hR.read hX
  replace hG := hG.read hX
  clear hX
  clear a0 a1 a2 a3 a4 a5
  have a0 := hG.bx.2 0 _ rfl
  have a1 := hG.bx.2 1 _ rfl
  have a2 := hG.bx.2 2 _ rfl
  have a3 := hG.bx.2 3 _ rfl
  have a4 := hG.bx.2 4 _ rfl
  have a5 := hG.bx.2 5 _ rfl
  go_wp2_with fail
  go_at_call 34
  refine (CP.out _ 2 _ _ hR.rd hR.rf i3.1 i3.2 (by omega) (by omega)).mono ?_
  rintro e w5 ⟨rfl, hX⟩
  replace hR := hR.read hX
  replace hG := hG.read hX
  clear hX
  clear a0 a1 a2 a3 a4 a5
  have a0 := hG.bx.2 0 _ rfl
  have a1 := hG.bx.2 1 _ rfl
  have a2 := hG.bx.2 2 _ rfl
  have a3 := hG.bx.2 3 _ rfl
  have a4 := hG.bx.2 4 _ rfl
  have a5 := hG.bx.2 5 _ rfl
  go_wp2_with fail
  go_at_call 33
  refine (CN.out _ 4 _ _ hR.rd hR.rf i4.1 i4.2 (by omega) (by omega)).mono ?_
  rintro e w6 ⟨rfl, hX⟩
  replace hR := hR.read hX
  replace hG := hG.read hX
  clear hX
  clear a0 a1 a2 a3 a4 a5
  have a0 := hG.bx.2 0 _ rfl
  have a1 := hG.bx.2 1 _ rfl
  have a2 := hG.bx.2 2 _ rfl
  have a3 := hG.bx.2 3 _ rfl
  have a4 := hG.bx.2 4 _ rfl
  have a5 := hG.bx.2 5 _ rfl
  have q4 := hG.fx.2 4
  go_wp2_with fail
  replace hR := hR.set g 4 (.int .i64 (numAt s (nxP s (nxP s (nxP s (nxP s 0 1) 3) 2) 2) 4)) hG.lt
  replace hG : Gx w.heap.size _ g [.bool true, .bool false, .int .i64 0, .bool true, .int .i64 (numAt s (nxP s (nxP s (nxP s (nxP s 0 1) 3) 2) 2) 4), .string ⟨#[]⟩] := hG.set 4 (.int .i64 (numAt s (nxP s (nxP s (nxP s (nxP s 0 1) 3) 2) 2) 4))
  generalize hW : w6.setCell ⟨g, 4, none⟩ (.int .i64 (numAt s (nxP s (nxP s (nxP s (nxP s 0 1) 3) 2) 2) 4)) = w7 at *
  clear hW q4
  clear a0 a1 a2 a3 a4 a5
  have a0 := hG.bx.2 0 _ rfl
  have a1 := hG.bx.2 1 _ rfl
  have a2 := hG.bx.2 2 _ rfl
  have a3 := hG.bx.2 3 _ rfl
  have a4 := hG.bx.2 4 _ rfl
  have a5 := hG.bx.2 5 _ rfl
  go_at_call 35
  refine (CR.out _ _ _ hR.rd i5.1 i5.2).mono ?_
  rintro e w8 ⟨rfl, hX⟩
  replace hR := hR.more hX
  replace hG := hG.more hX
  clear hX
  clear a0 a1 a2 a3 a4 a5
  have a0 := hG.bx.2 0 _ rfl
  have a1 := hG.bx.2 1 _ rfl
  have a2 := hG.bx.2 2 _ rfl
  have a3 := hG.bx.2 3 _ rfl
  have a4 := hG.bx.2 4 _ rfl
  have a5 := hG.bx.2 5 _ rfl
  have q5 := hG.fx.2 5
  have rd2 := hR.rd.2 2 _ rfl
  have hgl := hG.lt
  by_cases h8 : 12 ≤ (s.size : Int)
  · have hh := HY.out h8
    rw [hh.2.1] at rd2
    rw [hh.1]
    have HD : Hid (grd s = ⟨true, false, 0, true, numAt s 8 4, s.extract 12 s.size⟩) := by
      show _ = _
      have e1 : gpK s = 8 := by unfold gpK; rw [hga]; rfl
      have e2 : gpS s = 8 := by unfold gpS; rw [hgb, e1]; rfl
      unfold grd; rw [hga, hgb, hgc, hpD, e1, e2]; rfl
    have HV : Hid (gsv s = numAt s 4 2) := by show _ = _; unfold gsv; rw [hga]; rfl
    have bv := gsv_bd s
    have bk := grd_key s
    have bd := grd_data s
    have CF : Hid (∀ u : World, Calls Try.prog 36 #[.iface 59 (.agg (grT (grd s) (gsv s))), .string s] u fun e w' => e = .returned (.int .i64 (grF (grd s) (gsv s) s)) ∧ Below u.heap.size u w') := fun u => i_faultGr _ _ s u bv.1 bv.2 bk.1 bk.2 (by omega)
    have HC : Hid (grC s = grF (grd s) (gsv s) s) := by show _ = _; unfold grC grF; rw [hpD, if_pos h8]
    have HYs : Hid (grC s = 0 → grR s = grd s ∧ grC s = 0) := fun h => gr_yes h
    have HNs : Hid (∀ k : Int, grC s = k → ¬ k = 0 → grR s = gr0 ∧ grC s = k) := fun k h hk => gr_no h hk
    generalize grF (grd s) (gsv s) s = fv at *
    rw [HD.out, HV.out] at CF
    simp only [grT] at CF
    clear bv bk bd HN CP CN CR hm0 hm1 m7 m5 m4
    rw [hh.2.2.2.2.2] at hG a4
    rw [hh.2.2.2.1]
    simp only [Int.reduceToNat]
    clear HY hh
    generalize numAt s 8 4 = ns at *
    generalize numAt s 4 2 = nv at *
    generalize s.extract 12 s.size = da at *
    clear i1 i2 i3 i4 i5
    go_wp2_with fail
    replace hR := hR.set g 5 (.string da) hG.lt
    replace hG : Gx w.heap.size _ g [.bool true, .bool false, .int .i64 0, .bool true, .int .i64 ns, .string da] := hG.set 5 (.string da)
    generalize hW : World.setCell _ ⟨g, 5, none⟩ (.string da) = w99 at *
    clear hW q5 hgl
    go_at_call 36
    refine (CF.out _).mono ?_
    rintro e wf ⟨rfl, hX⟩
    replace hR := hR.more hX
    replace hG := hG.more hX
    clear hX rd2
    clear a0 a1 a2 a3 a4 a5
    have a0 := hG.bx.2 0 _ rfl
    have a1 := hG.bx.2 1 _ rfl
    have a2 := hG.bx.2 2 _ rfl
    have a3 := hG.bx.2 3 _ rfl
    have a4 := hG.bx.2 4 _ rfl
    have a5 := hG.bx.2 5 _ rfl
    have r0 := hR.out.2 0 _ rfl
    have r1 := hR.out.2 1 _ rfl
    have r2 := hR.out.2 2 _ rfl
    have r3 := hR.out.2 3 _ rfl
    have r4 := hR.out.2 4 _ rfl
    have r5 := hR.out.2 5 _ rfl
    have v0 := hR.fr.2 0
    have v1 := hR.fr.2 1
    have v2 := hR.fr.2 2
    have v3 := hR.fr.2 3
    have v4 := hR.fr.2 4
    have v5 := hR.fr.2 5
    have hgl := hG.lt
    have hB := hR.below
    by_cases hfv : fv = 0
    · have hf2 : (fv != 0) = false := by simp [hfv]
      have Z9 := HYs.out (HC.out.trans hfv)
      have ZZ : Hid (grL (grR s) = #[.bool true, .bool false, .int .i64 0, .bool true, .int .i64 ns, .string da] ∧ grC s = 0) := ⟨by rw [Z9.1, HD.out]; rfl, Z9.2⟩
      clear Z9 hfv HYs HNs HC
      go_wp2
      refine bodyPost_ret (v := .tuple #[.agg #[.bool true, .bool false, .int .i64 0, .bool true, .int .i64 ns, .string da], .int .i64 0]) ?_ rfl ⟨by rw [ZZ.out.1, ZZ.out.2], ?_⟩
      · simp [results, Try.results11, go_sem, r0, r1, r2, r3, r4, r5]
      · go_grown
    · have hf2 : (fv != 0) = true := by simp [hfv]
      have Z9 := HNs.out fv HC.out hfv
      have ZZ : Hid (grL (grR s) = #[.bool false, .bool false, .int .i64 0, .bool false, .int .i64 0, .string ⟨#[]⟩] ∧ grC s = fv) := ⟨by rw [Z9.1]; rfl, Z9.2⟩
      clear Z9 hfv HYs HNs HC
      go_wp2
      refine bodyPost_ret (v := .tuple #[.agg #[.bool false, .bool false, .int .i64 0, .bool false, .int .i64 0, .string ⟨#[]⟩], .int .i64 fv]) ?_ rfl ⟨by rw [ZZ.out.1, ZZ.out.2], ?_⟩
      · simp [results, Try.results11, go_sem, r0, r1, r2, r3, r4, r5]
      · go_grown
  · rw [HN.out (by omega)] at rd2
    have Z9 := gr_no (s := s) (k := 1) (by unfold grC; rw [hpD, if_neg h8]) (by decide)
    have ZZ : Hid (grL (grR s) = #[.bool false, .bool false, .int .i64 0, .bool false, .int .i64 0, .string ⟨#[]⟩] ∧ grC s = 1) := ⟨by rw [Z9.1]; rfl, Z9.2⟩
    clear Z9 HY HN CP CN CR hm0 hm1 m7 m5 m4
    have r0 := hR.out.2 0 _ rfl
    have r1 := hR.out.2 1 _ rfl
    have r2 := hR.out.2 2 _ rfl
    have r3 := hR.out.2 3 _ rfl
    have r4 := hR.out.2 4 _ rfl
    have r5 := hR.out.2 5 _ rfl
    have v0 := hR.fr.2 0
    have v1 := hR.fr.2 1
    have v2 := hR.fr.2 2
    have v3 := hR.fr.2 3
    have v4 := hR.fr.2 4
    have v5 := hR.fr.2 5
    have hB := hR.below
    clear hR hG
    go_wp2
    refine bodyPost_ret (v := .tuple #[.agg #[.bool false, .bool false, .int .i64 0, .bool false, .int .i64 0, .string ⟨#[]⟩], .int .i64 1]) ?_ rfl ⟨by rw [ZZ.out.1, ZZ.out.2], ?_⟩
    · simp [results, Try.results11, go_sem, r0, r1, r2, r3, r4, r5]
    · go_grown
set_option maxRecDepth 100000 in
set_option maxHeartbeats 3200000 in
theorem i_RG110 (s : ByteArray) (w : World) (hs : s.size ≤ 1048576) (hga : gra s = true) (hgb : grb s = true) (hgc : grc s = false) :
    Calls Try.prog 11 #[.string s] w fun e w' => e = .returned (.tuple #[.agg (grL (grR s)), .int .i64 (grC s)]) ∧ Below w.heap.size w w' := by
  have hpD : gpD s = 12 := by unfold gpD gpS gpK; rw [hga, hgb, hgc]; rfl
  have hmb := numAt_bd s 0 1
  have hm0 : 0 ≤ numAt s 0 1 := hmb.1
  have hm1 : numAt s 0 1 < 256 := hmb.2
  clear hmb
  have m7 : bits .and .i64 (numAt s 0 1) 128 = 128 := by
    rw [and_m7 hm0 (by omega)]
    have : decide (numAt s 0 1 / 128 % 2 = 1) = true := hga
    rw [if_pos (of_decide_eq_true this)]
  have m5 : bits .and .i64 (numAt s 0 1) 32 = 32 := by
    rw [and_m5 hm0 (by omega)]
    have : decide (numAt s 0 1 / 32 % 2 = 1) = true := hgb
    rw [if_pos (of_decide_eq_true this)]
  have m4 : bits .and .i64 (numAt s 0 1) 16 = 0 := by
    rw [and_m4 hm0 (by omega)]
    have : decide (numAt s 0 1 / 16 % 2 = 1) = false := hgc
    rw [if_neg (of_decide_eq_false this)]
  have HY : Hid ((12 : Int) ≤ s.size → (nxP s (nxP s (nxP s (nxP s (nxP s 0 1) 3) 2) 2) 4) = 12 ∧ (nxF s (nxP s (nxP s (nxP s (nxP s 0 1) 3) 2) 2) 4 (nxF s (nxP s (nxP s (nxP s 0 1) 3) 2) 2 (nxF s (nxP s (nxP s 0 1) 3) 2 (nxF s (nxP s 0 1) 3 (nxF s 0 1 false))))) = false ∧ (nxP s 0 1) = 1 ∧ (nxP s (nxP s 0 1) 3) = 4 ∧ (nxP s (nxP s (nxP s 0 1) 3) 2) = 6 ∧ (nxP s (nxP s (nxP s (nxP s 0 1) 3) 2) 2) = 8) := fun h => by
    have := ch_yes s [1, 3, 2, 2, 4] 0 false (by simp) (by simpa using h)
    refine ⟨this.1, this.2, ?_, ?_, ?_, ?_⟩
    · exact (ch_yes s [1] 0 false (by simp) (by simp; omega)).1
    · exact (ch_yes s [1, 3] 0 false (by simp) (by simp; omega)).1
    · exact (ch_yes s [1, 3, 2] 0 false (by simp) (by simp; omega)).1
    · exact (ch_yes s [1, 3, 2, 2] 0 false (by simp) (by simp; omega)).1
  have HN : Hid ((s.size : Int) < 12 → (nxF s (nxP s (nxP s (nxP s (nxP s 0 1) 3) 2) 2) 4 (nxF s (nxP s (nxP s (nxP s 0 1) 3) 2) 2 (nxF s (nxP s (nxP s 0 1) 3) 2 (nxF s (nxP s 0 1) 3 (nxF s 0 1 false))))) = true) := fun h => ch_no s [1, 3, 2, 2, 4] 0 false (by omega) (by simpa using h)
  have CP : Hid (∀ (p k : Int) (f : Bool) (u : World), Bx u (w.heap.size + 1) (rdx s p f) → Fx u (w.heap.size + 1) → 0 ≤ p → p ≤ s.size → 0 ≤ k → k ≤ 1099511627776 → Calls Try.prog 34 #[.pointer (some ⟨w.heap.size + 1, 0, none⟩), .int .i64 k] u fun e w' => e = .returned (.string (pieceAt s p k)) ∧ RxTo u w' (w.heap.size + 1) s (nxP s p k) (nxF s p k f)) := fun p k f u h1 h2 h3 h4 h5 h6 => i_rdPiece s p k f _ u h1 h2 h3 h4 h5 h6 (by omega)
  have CN : Hid (∀ (p k : Int) (f : Bool) (u : World), Bx u (w.heap.size + 1) (rdx s p f) → Fx u (w.heap.size + 1) → 0 ≤ p → p ≤ s.size → 1 ≤ k → k ≤ 7 → Calls Try.prog 33 #[.pointer (some ⟨w.heap.size + 1, 0, none⟩), .int .i64 k] u fun e w' => e = .returned (.int .i64 (numAt s p k)) ∧ RxTo u w' (w.heap.size + 1) s (nxP s p k) (nxF s p k f)) := fun p k f u h1 h2 h3 h4 h5 h6 => i_rdNumber s p k f _ u h1 h2 h3 h4 h5 h6 (by omega)
  have CR : Hid (∀ (p : Int) (f : Bool) (u : World), Bx u (w.heap.size + 1) (rdx s p f) → 0 ≤ p → p ≤ s.size → Calls Try.prog 35 #[.pointer (some ⟨w.heap.size + 1, 0, none⟩)] u fun e w' => e = .returned (.string (s.extract p.toNat s.size)) ∧ Below u.heap.size u w') := fun p f u h1 h2 h3 => i_rdRest s p f _ u h1 h2 h3 (by omega)
  have hR : RG w.heap.size [.bool false, .bool false, .int .i64 0, .bool false, .int .i64 0, .string ⟨#[]⟩] w ((w.alloc (.cells #[.bool false, .bool false, .int .i64 0, .bool false, .int .i64 0, .string ⟨#[]⟩] 23)).alloc (.cells #[.string s, .int .i64 0, .bool false] 53)) s 0 false := by
    have hb0 : Below w.heap.size w (w.alloc (.cells #[.bool false, .bool false, .int .i64 0, .bool false, .int .i64 0, .string ⟨#[]⟩] 23)) := (Below.refl _ w).alloc (Nat.le_refl _) _
    have h1 := Bx.new (w.alloc (.cells #[.bool false, .bool false, .int .i64 0, .bool false, .int .i64 0, .string ⟨#[]⟩] 23)) #[.string s, .int .i64 0, .bool false] 53
    have h2 := Fx.new (w.alloc (.cells #[.bool false, .bool false, .int .i64 0, .bool false, .int .i64 0, .string ⟨#[]⟩] 23)) #[.string s, .int .i64 0, .bool false] 53
    have e : (w.alloc (.cells #[.bool false, .bool false, .int .i64 0, .bool false, .int .i64 0, .string ⟨#[]⟩] 23)).heap.size = w.heap.size + 1 := by simp
    rw [e] at h1 h2
    exact ⟨hb0.alloc (by simp) _, rfl, h1, h2, (Bx.new w #[.bool false, .bool false, .int .i64 0, .bool false, .int .i64 0, .string ⟨#[]⟩] _).below ((Below.refl _ _).alloc (Nat.le_refl _) _), (Fx.new w #[.bool false, .bool false, .int .i64 0, .bool false, .int .i64 0, .string ⟨#[]⟩] _).below ((Below.refl _ _).alloc (Nat.le_refl _) _)⟩
  have i1 := nxP_in (s := s) (p := 0) (k := 1) (by omega) (by omega) (by omega)
  have i2 := nxP_in (s := s) (p := (nxP s 0 1)) (k := 3) i1.1 i1.2 (by omega)
  have i3 := nxP_in (s := s) (p := (nxP s (nxP s 0 1) 3)) (k := 2) i2.1 i2.2 (by omega)
  have i4 := nxP_in (s := s) (p := (nxP s (nxP s (nxP s 0 1) 3) 2)) (k := 2) i3.1 i3.2 (by omega)
  have i5 := nxP_in (s := s) (p := (nxP s (nxP s (nxP s (nxP s 0 1) 3) 2) 2)) (k := 4) i4.1 i4.2 (by omega)
  go_enter Try.func11, Try.ntmps11
  go_wp2_with fail
  go_at_call 33
  refine (CN.out 0 1 false _ hR.rd hR.rf (by omega) (by omega) (by omega) (by omega)).mono ?_
  rintro e w1 ⟨rfl, hX⟩
  replace hR := hR.read hX
  clear hX
  go_wp2_with fail
  go_at_call 34
  refine (CP.out _ 3 _ _ hR.rd hR.rf i1.1 i1.2 (by omega) (by omega)).mono ?_
  rintro e w2 ⟨rfl, hX⟩
  replace hR := hR.read hX
  clear hX
  have hG : Gx w.heap.size (w2.alloc (.cells #[.bool true, .bool true, .int .i64 0, .bool false, .int .i64 0, .string ⟨#[]⟩] 23)) w2.heap.size [.bool true, .bool true, .int .i64 0, .bool false, .int .i64 0, .string ⟨#[]⟩] := ⟨Bx.new w2 _ _, Fx.new w2 _ _, by have := hR.rd.1; omega⟩
  replace hR := hR.more ((Below.refl _ w2).alloc (Nat.le_refl _) (.cells #[.bool true, .bool true, .int .i64 0, .bool false, .int .i64 0, .string ⟨#[]⟩] 23))
  go_wp2_with fail
  generalize hW : w2.alloc (.cells #[.bool true, .bool true, .int .i64 0, .bool false, .int .i64 0, .string ⟨#[]⟩] 23) = w3 at *
  clear hW
  generalize w2.heap.size = g at *
  have a0 := hG.bx.2 0 _ rfl
  have a1 := hG.bx.2 1 _ rfl
  have a2 := hG.bx.2 2 _ rfl
  have a3 := hG.bx.2 3 _ rfl
  have a4 := hG.bx.2 4 _ rfl
  have a5 := hG.bx.2 5 _ rfl
  go_at_call 33
  refine (CN.out _ 2 _ _ hR.rd hR.rf i2.1 i2.2 (by omega) (by omega)).mono ?_
  rintro e w4 ⟨rfl, hX⟩
  replace hR := hR.read hX
  replace hG := hG.read hX
  clear hX
  clear a0 a1 a2 a3 a4 a5
  have a0 := hG.bx.2 0 _ rfl
  have a1 := hG.bx.2 1 _ rfl
  have a2 := hG.bx.2 2 _ rfl
  have a3 := hG.bx.2 3 _ rfl
  have a4 := hG.bx.2 4 _ rfl
  have a5 := hG.bx.2 5 _ rfl
  go_wp2_with fail
  go_at_call 34
  refine (CP.out _ 2 _ _ hR.rd hR.rf i3.1 i3.2 (by omega) (by omega)).mono ?_
  rintro e w5 ⟨rfl, hX⟩
  replace hR := hR.read hX
  replace hG := hG.read hX
  clear hX
  clear a0 a1 a2 a3 a4 a5
  have a0 := hG.bx.2 0 _ rfl
  have a1 := hG.bx.2 1 _ rfl
  have a2 := hG.bx.2 2 _ rfl
  have a3 := hG.bx.2 3 _ rfl
  have a4 := hG.bx.2 4 _ rfl
  have a5 := hG.bx.2 5 _ rfl
  go_wp2_with fail
  go_at_call 33
  refine (CN.out _ 4 _ _ hR.rd hR.rf i4.1 i4.2 (by omega) (by omega)).mono ?_
  rintro e w6 ⟨rfl, hX⟩
  replace hR := hR.read hX
  replace hG := hG.read hX
  clear hX
  clear a0 a1 a2 a3 a4 a5
  have a0 := hG.bx.2 0 _ rfl
  have a1 := hG.bx.2 1 _ rfl
  have a2 := hG.bx.2 2 _ rfl
  have a3 := hG.bx.2 3 _ rfl
  have a4 := hG.bx.2 4 _ rfl
  have a5 := hG.bx.2 5 _ rfl
  have q2 := hG.fx.2 2
  go_wp2_with fail
  replace hR := hR.set g 2 (.int .i64 (numAt s (nxP s (nxP s (nxP s (nxP s 0 1) 3) 2) 2) 4)) hG.lt
  replace hG : Gx w.heap.size _ g [.bool true, .bool true, .int .i64 (numAt s (nxP s (nxP s (nxP s (nxP s 0 1) 3) 2) 2) 4), .bool false, .int .i64 0, .string ⟨#[]⟩] := hG.set 2 (.int .i64 (numAt s (nxP s (nxP s (nxP s (nxP s 0 1) 3) 2) 2) 4))
  generalize hW : w6.setCell ⟨g, 2, none⟩ (.int .i64 (numAt s (nxP s (nxP s (nxP s (nxP s 0 1) 3) 2) 2) 4)) = w7 at *
  clear hW q2
  clear a0 a1 a2 a3 a4 a5
  have a0 := hG.bx.2 0 _ rfl
  have a1 := hG.bx.2 1 _ rfl
  have a2 := hG.bx.2 2 _ rfl
  have a3 := hG.bx.2 3 _ rfl
  have a4 := hG.bx.2 4 _ rfl
  have a5 := hG.bx.2 5 _ rfl
  go_at_call 35
  refine (CR.out _ _ _ hR.rd i5.1 i5.2).mono ?_
  rintro e w8 ⟨rfl, hX⟩
  replace hR := hR.more hX
  replace hG := hG.more hX
  clear hX
  clear a0 a1 a2 a3 a4 a5
  have a0 := hG.bx.2 0 _ rfl
  have a1 := hG.bx.2 1 _ rfl
  have a2 := hG.bx.2 2 _ rfl
  have a3 := hG.bx.2 3 _ rfl
  have a4 := hG.bx.2 4 _ rfl
  have a5 := hG.bx.2 5 _ rfl
  have q5 := hG.fx.2 5
  have rd2 := hR.rd.2 2 _ rfl
  have hgl := hG.lt
  by_cases h8 : 12 ≤ (s.size : Int)
  · have hh := HY.out h8
    rw [hh.2.1] at rd2
    rw [hh.1]
    have HD : Hid (grd s = ⟨true, true, numAt s 8 4, false, 0, s.extract 12 s.size⟩) := by
      show _ = _
      have e1 : gpK s = 8 := by unfold gpK; rw [hga]; rfl
      have e2 : gpS s = 12 := by unfold gpS; rw [hgb, e1]; rfl
      unfold grd; rw [hga, hgb, hgc, hpD, e1, e2]; rfl
    have HV : Hid (gsv s = numAt s 4 2) := by show _ = _; unfold gsv; rw [hga]; rfl
    have bv := gsv_bd s
    have bk := grd_key s
    have bd := grd_data s
    have CF : Hid (∀ u : World, Calls Try.prog 36 #[.iface 59 (.agg (grT (grd s) (gsv s))), .string s] u fun e w' => e = .returned (.int .i64 (grF (grd s) (gsv s) s)) ∧ Below u.heap.size u w') := fun u => i_faultGr _ _ s u bv.1 bv.2 bk.1 bk.2 (by omega)
    have HC : Hid (grC s = grF (grd s) (gsv s) s) := by show _ = _; unfold grC grF; rw [hpD, if_pos h8]
    have HYs : Hid (grC s = 0 → grR s = grd s ∧ grC s = 0) := fun h => gr_yes h
    have HNs : Hid (∀ k : Int, grC s = k → ¬ k = 0 → grR s = gr0 ∧ grC s = k) := fun k h hk => gr_no h hk
    generalize grF (grd s) (gsv s) s = fv at *
    rw [HD.out, HV.out] at CF
    simp only [grT] at CF
    clear bv bk bd HN CP CN CR hm0 hm1 m7 m5 m4
    rw [hh.2.2.2.2.2] at hG a2
    rw [hh.2.2.2.1]
    simp only [Int.reduceToNat]
    clear HY hh
    generalize numAt s 8 4 = nk at *
    generalize numAt s 4 2 = nv at *
    generalize s.extract 12 s.size = da at *
    clear i1 i2 i3 i4 i5
    go_wp2_with fail
    replace hR := hR.set g 5 (.string da) hG.lt
    replace hG : Gx w.heap.size _ g [.bool true, .bool true, .int .i64 nk, .bool false, .int .i64 0, .string da] := hG.set 5 (.string da)
    generalize hW : World.setCell _ ⟨g, 5, none⟩ (.string da) = w99 at *
    clear hW q5 hgl
    go_at_call 36
    refine (CF.out _).mono ?_
    rintro e wf ⟨rfl, hX⟩
    replace hR := hR.more hX
    replace hG := hG.more hX
    clear hX rd2
    clear a0 a1 a2 a3 a4 a5
    have a0 := hG.bx.2 0 _ rfl
    have a1 := hG.bx.2 1 _ rfl
    have a2 := hG.bx.2 2 _ rfl
    have a3 := hG.bx.2 3 _ rfl
    have a4 := hG.bx.2 4 _ rfl
    have a5 := hG.bx.2 5 _ rfl
    have r0 := hR.out.2 0 _ rfl
    have r1 := hR.out.2 1 _ rfl
    have r2 := hR.out.2 2 _ rfl
    have r3 := hR.out.2 3 _ rfl
    have r4 := hR.out.2 4 _ rfl
    have r5 := hR.out.2 5 _ rfl
    have v0 := hR.fr.2 0
    have v1 := hR.fr.2 1
    have v2 := hR.fr.2 2
    have v3 := hR.fr.2 3
    have v4 := hR.fr.2 4
    have v5 := hR.fr.2 5
    have hgl := hG.lt
    have hB := hR.below
    by_cases hfv : fv = 0
    · have hf2 : (fv != 0) = false := by simp [hfv]
      have Z9 := HYs.out (HC.out.trans hfv)
      have ZZ : Hid (grL (grR s) = #[.bool true, .bool true, .int .i64 nk, .bool false, .int .i64 0, .string da] ∧ grC s = 0) := ⟨by rw [Z9.1, HD.out]; rfl, Z9.2⟩
      clear Z9 hfv HYs HNs HC
      go_wp2
      refine bodyPost_ret (v := .tuple #[.agg #[.bool true, .bool true, .int .i64 nk, .bool false, .int .i64 0, .string da], .int .i64 0]) ?_ rfl ⟨by rw [ZZ.out.1, ZZ.out.2], ?_⟩
      · simp [results, Try.results11, go_sem, r0, r1, r2, r3, r4, r5]
      · go_grown
    · have hf2 : (fv != 0) = true := by simp [hfv]
      have Z9 := HNs.out fv HC.out hfv
      have ZZ : Hid (grL (grR s) = #[.bool false, .bool false, .int .i64 0, .bool false, .int .i64 0, .string ⟨#[]⟩] ∧ grC s = fv) := ⟨by rw [Z9.1]; rfl, Z9.2⟩
      clear Z9 hfv HYs HNs HC
      go_wp2
      refine bodyPost_ret (v := .tuple #[.agg #[.bool false, .bool false, .int .i64 0, .bool false, .int .i64 0, .string ⟨#[]⟩], .int .i64 fv]) ?_ rfl ⟨by rw [ZZ.out.1, ZZ.out.2], ?_⟩
      · simp [results, Try.results11, go_sem, r0, r1, r2, r3, r4, r5]
      · go_grown
  · rw [HN.out (by omega)] at rd2
    have Z9 := gr_no (s := s) (k := 1) (by unfold grC; rw [hpD, if_neg h8]) (by decide)
    have ZZ : Hid (grL (grR s) = #[.bool false, .bool false, .int .i64 0, .bool false, .int .i64 0, .string ⟨#[]⟩] ∧ grC s = 1) := ⟨by rw [Z9.1]; rfl, Z9.2⟩
    clear Z9 HY HN CP CN CR hm0 hm1 m7 m5 m4
    have r0 := hR.out.2 0 _ rfl
    have r1 := hR.out.2 1 _ rfl
    have r2 := hR.out.2 2 _ rfl
    have r3 := hR.out.2 3 _ rfl
    have r4 := hR.out.2 4 _ rfl
    have r5 := hR.out.2 5 _ rfl
    have v0 := hR.fr.2 0
    have v1 := hR.fr.2 1
    have v2 := hR.fr.2 2
    have v3 := hR.fr.2 3
    have v4 := hR.fr.2 4
    have v5 := hR.fr.2 5
    have hB := hR.below
    clear hR hG
    go_wp2
    refine bodyPost_ret (v := .tuple #[.agg #[.bool false, .bool false, .int .i64 0, .bool false, .int .i64 0, .string ⟨#[]⟩], .int .i64 1]) ?_ rfl ⟨by rw [ZZ.out.1, ZZ.out.2], ?_⟩
    · simp [results, Try.results11, go_sem, r0, r1, r2, r3, r4, r5]
    · go_grown
set_option maxRecDepth 100000 in
set_option maxHeartbeats 3200000 in
theorem i_RG111 (s : ByteArray) (w : World) (hs : s.size ≤ 1048576) (hga : gra s = true) (hgb : grb s = true) (hgc : grc s = true) :
    Calls Try.prog 11 #[.string s] w fun e w' => e = .returned (.tuple #[.agg (grL (grR s)), .int .i64 (grC s)]) ∧ Below w.heap.size w w' := by
  have hpD : gpD s = 16 := by unfold gpD gpS gpK; rw [hga, hgb, hgc]; rfl
  have hmb := numAt_bd s 0 1
  have hm0 : 0 ≤ numAt s 0 1 := hmb.1
  have hm1 : numAt s 0 1 < 256 := hmb.2
  clear hmb
  have m7 : bits .and .i64 (numAt s 0 1) 128 = 128 := by
    rw [and_m7 hm0 (by omega)]
    have : decide (numAt s 0 1 / 128 % 2 = 1) = true := hga
    rw [if_pos (of_decide_eq_true this)]
  have m5 : bits .and .i64 (numAt s 0 1) 32 = 32 := by
    rw [and_m5 hm0 (by omega)]
    have : decide (numAt s 0 1 / 32 % 2 = 1) = true := hgb
    rw [if_pos (of_decide_eq_true this)]
  have m4 : bits .and .i64 (numAt s 0 1) 16 = 16 := by
    rw [and_m4 hm0 (by omega)]
    have : decide (numAt s 0 1 / 16 % 2 = 1) = true := hgc
    rw [if_pos (of_decide_eq_true this)]
  have HY : Hid ((16 : Int) ≤ s.size → (nxP s (nxP s (nxP s (nxP s (nxP s (nxP s 0 1) 3) 2) 2) 4) 4) = 16 ∧ (nxF s (nxP s (nxP s (nxP s (nxP s (nxP s 0 1) 3) 2) 2) 4) 4 (nxF s (nxP s (nxP s (nxP s (nxP s 0 1) 3) 2) 2) 4 (nxF s (nxP s (nxP s (nxP s 0 1) 3) 2) 2 (nxF s (nxP s (nxP s 0 1) 3) 2 (nxF s (nxP s 0 1) 3 (nxF s 0 1 false)))))) = false ∧ (nxP s 0 1) = 1 ∧ (nxP s (nxP s 0 1) 3) = 4 ∧ (nxP s (nxP s (nxP s 0 1) 3) 2) = 6 ∧ (nxP s (nxP s (nxP s (nxP s 0 1) 3) 2) 2) = 8 ∧ (nxP s (nxP s (nxP s (nxP s (nxP s 0 1) 3) 2) 2) 4) = 12) := fun h => by
    have := ch_yes s [1, 3, 2, 2, 4, 4] 0 false (by simp) (by simpa using h)
    refine ⟨this.1, this.2, ?_, ?_, ?_, ?_, ?_⟩
    · exact (ch_yes s [1] 0 false (by simp) (by simp; omega)).1
    · exact (ch_yes s [1, 3] 0 false (by simp) (by simp; omega)).1
    · exact (ch_yes s [1, 3, 2] 0 false (by simp) (by simp; omega)).1
    · exact (ch_yes s [1, 3, 2, 2] 0 false (by simp) (by simp; omega)).1
    · exact (ch_yes s [1, 3, 2, 2, 4] 0 false (by simp) (by simp; omega)).1
  have HN : Hid ((s.size : Int) < 16 → (nxF s (nxP s (nxP s (nxP s (nxP s (nxP s 0 1) 3) 2) 2) 4) 4 (nxF s (nxP s (nxP s (nxP s (nxP s 0 1) 3) 2) 2) 4 (nxF s (nxP s (nxP s (nxP s 0 1) 3) 2) 2 (nxF s (nxP s (nxP s 0 1) 3) 2 (nxF s (nxP s 0 1) 3 (nxF s 0 1 false)))))) = true) := fun h => ch_no s [1, 3, 2, 2, 4, 4] 0 false (by omega) (by simpa using h)
  have CP : Hid (∀ (p k : Int) (f : Bool) (u : World), Bx u (w.heap.size + 1) (rdx s p f) → Fx u (w.heap.size + 1) → 0 ≤ p → p ≤ s.size → 0 ≤ k → k ≤ 1099511627776 → Calls Try.prog 34 #[.pointer (some ⟨w.heap.size + 1, 0, none⟩), .int .i64 k] u fun e w' => e = .returned (.string (pieceAt s p k)) ∧ RxTo u w' (w.heap.size + 1) s (nxP s p k) (nxF s p k f)) := fun p k f u h1 h2 h3 h4 h5 h6 => i_rdPiece s p k f _ u h1 h2 h3 h4 h5 h6 (by omega)
  have CN : Hid (∀ (p k : Int) (f : Bool) (u : World), Bx u (w.heap.size + 1) (rdx s p f) → Fx u (w.heap.size + 1) → 0 ≤ p → p ≤ s.size → 1 ≤ k → k ≤ 7 → Calls Try.prog 33 #[.pointer (some ⟨w.heap.size + 1, 0, none⟩), .int .i64 k] u fun e w' => e = .returned (.int .i64 (numAt s p k)) ∧ RxTo u w' (w.heap.size + 1) s (nxP s p k) (nxF s p k f)) := fun p k f u h1 h2 h3 h4 h5 h6 => i_rdNumber s p k f _ u h1 h2 h3 h4 h5 h6 (by omega)
  have CR : Hid (∀ (p : Int) (f : Bool) (u : World), Bx u (w.heap.size + 1) (rdx s p f) → 0 ≤ p → p ≤ s.size → Calls Try.prog 35 #[.pointer (some ⟨w.heap.size + 1, 0, none⟩)] u fun e w' => e = .returned (.string (s.extract p.toNat s.size)) ∧ Below u.heap.size u w') := fun p f u h1 h2 h3 => i_rdRest s p f _ u h1 h2 h3 (by omega)
  have hR : RG w.heap.size [.bool false, .bool false, .int .i64 0, .bool false, .int .i64 0, .string ⟨#[]⟩] w ((w.alloc (.cells #[.bool false, .bool false, .int .i64 0, .bool false, .int .i64 0, .string ⟨#[]⟩] 23)).alloc (.cells #[.string s, .int .i64 0, .bool false] 53)) s 0 false := by
    have hb0 : Below w.heap.size w (w.alloc (.cells #[.bool false, .bool false, .int .i64 0, .bool false, .int .i64 0, .string ⟨#[]⟩] 23)) := (Below.refl _ w).alloc (Nat.le_refl _) _
    have h1 := Bx.new (w.alloc (.cells #[.bool false, .bool false, .int .i64 0, .bool false, .int .i64 0, .string ⟨#[]⟩] 23)) #[.string s, .int .i64 0, .bool false] 53
    have h2 := Fx.new (w.alloc (.cells #[.bool false, .bool false, .int .i64 0, .bool false, .int .i64 0, .string ⟨#[]⟩] 23)) #[.string s, .int .i64 0, .bool false] 53
    have e : (w.alloc (.cells #[.bool false, .bool false, .int .i64 0, .bool false, .int .i64 0, .string ⟨#[]⟩] 23)).heap.size = w.heap.size + 1 := by simp
    rw [e] at h1 h2
    exact ⟨hb0.alloc (by simp) _, rfl, h1, h2, (Bx.new w #[.bool false, .bool false, .int .i64 0, .bool false, .int .i64 0, .string ⟨#[]⟩] _).below ((Below.refl _ _).alloc (Nat.le_refl _) _), (Fx.new w #[.bool false, .bool false, .int .i64 0, .bool false, .int .i64 0, .string ⟨#[]⟩] _).below ((Below.refl _ _).alloc (Nat.le_refl _) _)⟩
  have i1 := nxP_in (s := s) (p := 0) (k := 1) (by omega) (by omega) (by omega)
  have i2 := nxP_in (s := s) (p := (nxP s 0 1)) (k := 3) i1.1 i1.2 (by omega)
  have i3 := nxP_in (s := s) (p := (nxP s (nxP s 0 1) 3)) (k := 2) i2.1 i2.2 (by omega)
  have i4 := nxP_in (s := s) (p := (nxP s (nxP s (nxP s 0 1) 3) 2)) (k := 2) i3.1 i3.2 (by omega)
  have i5 := nxP_in (s := s) (p := (nxP s (nxP s (nxP s (nxP s 0 1) 3) 2) 2)) (k := 4) i4.1 i4.2 (by omega)
  have i6 := nxP_in (s := s) (p := (nxP s (nxP s (nxP s (nxP s (nxP s 0 1) 3) 2) 2) 4)) (k := 4) i5.1 i5.2 (by omega)
  go_enter Try.func11, Try.ntmps11
  go_wp2_with fail
  go_at_call 33
  refine (CN.out 0 1 false _ hR.rd hR.rf (by omega) (by omega) (by omega) (by omega)).mono ?_
  rintro e w1 ⟨rfl, hX⟩
  replace hR := hR.read hX
  clear hX
  go_wp2_with fail
  go_at_call 34
  refine (CP.out _ 3 _ _ hR.rd hR.rf i1.1 i1.2 (by omega) (by omega)).mono ?_
  rintro e w2 ⟨rfl, hX⟩
  replace hR := hR.read hX
  clear hX
  have hG : Gx w.heap.size (w2.alloc (.cells #[.bool true, .bool true, .int .i64 0, .bool true, .int .i64 0, .string ⟨#[]⟩] 23)) w2.heap.size [.bool true, .bool true, .int .i64 0, .bool true, .int .i64 0, .string ⟨#[]⟩] := ⟨Bx.new w2 _ _, Fx.new w2 _ _, by have := hR.rd.1; omega⟩
  replace hR := hR.more ((Below.refl _ w2).alloc (Nat.le_refl _) (.cells #[.bool true, .bool true, .int .i64 0, .bool true, .int .i64 0, .string ⟨#[]⟩] 23))
  go_wp2_with fail
  generalize hW : w2.alloc (.cells #[.bool true, .bool true, .int .i64 0, .bool true, .int .i64 0, .string ⟨#[]⟩] 23) = w3 at *
  clear hW
  generalize w2.heap.size = g at *
  have a0 := hG.bx.2 0 _ rfl
  have a1 := hG.bx.2 1 _ rfl
  have a2 := hG.bx.2 2 _ rfl
  have a3 := hG.bx.2 3 _ rfl
  have a4 := hG.bx.2 4 _ rfl
  have a5 := hG.bx.2 5 _ rfl
  go_at_call 33
  refine (CN.out _ 2 _ _ hR.rd hR.rf i2.1 i2.2 (by omega) (by omega)).mono ?_
  rintro e w4 ⟨rfl, hX⟩
  replace hR := hR.read hX
  replace hG := hG.read hX
  clear hX
  clear a0 a1 a2 a3 a4 a5
  have a0 := hG.bx.2 0 _ rfl
  have a1 := hG.bx.2 1 _ rfl
  have a2 := hG.bx.2 2 _ rfl
  have a3 := hG.bx.2 3 _ rfl
  have a4 := hG.bx.2 4 _ rfl
  have a5 := hG.bx.2 5 _ rfl
  go_wp2_with fail
  go_at_call 34
  refine (CP.out _ 2 _ _ hR.rd hR.rf i3.1 i3.2 (by omega) (by omega)).mono ?_
  rintro e w5 ⟨rfl, hX⟩
  replace hR := hR.read hX
  replace hG := hG.read hX
  clear hX
  clear a0 a1 a2 a3 a4 a5
  have a0 := hG.bx.2 0 _ rfl
  have a1 := hG.bx.2 1 _ rfl
  have a2 := hG.bx.2 2 _ rfl
  have a3 := hG.bx.2 3 _ rfl
  have a4 := hG.bx.2 4 _ rfl
  have a5 := hG.bx.2 5 _ rfl
  go_wp2_with fail
  go_at_call 33
  refine (CN.out _ 4 _ _ hR.rd hR.rf i4.1 i4.2 (by omega) (by omega)).mono ?_
  rintro e w6 ⟨rfl, hX⟩
  replace hR := hR.read hX
  replace hG := hG.read hX
  clear hX
  clear a0 a1 a2 a3 a4 a5
  have a0 := hG.bx.2 0 _ rfl
  have a1 := hG.bx.2 1 _ rfl
  have a2 := hG.bx.2 2 _ rfl
  have a3 := hG.bx.2 3 _ rfl
  have a4 := hG.bx.2 4 _ rfl
  have a5 := hG.bx.2 5 _ rfl
  have q2 := hG.fx.2 2
  go_wp2_with fail
  replace hR := hR.set g 2 (.int .i64 (numAt s (nxP s (nxP s (nxP s (nxP s 0 1) 3) 2) 2) 4)) hG.lt
  replace hG : Gx w.heap.size _ g [.bool true, .bool true, .int .i64 (numAt s (nxP s (nxP s (nxP s (nxP s 0 1) 3) 2) 2) 4), .bool true, .int .i64 0, .string ⟨#[]⟩] := hG.set 2 (.int .i64 (numAt s (nxP s (nxP s (nxP s (nxP s 0 1) 3) 2) 2) 4))
  generalize hW : w6.setCell ⟨g, 2, none⟩ (.int .i64 (numAt s (nxP s (nxP s (nxP s (nxP s 0 1) 3) 2) 2) 4)) = w7 at *
  clear hW q2
  clear a0 a1 a2 a3 a4 a5
  have a0 := hG.bx.2 0 _ rfl
  have a1 := hG.bx.2 1 _ rfl
  have a2 := hG.bx.2 2 _ rfl
  have a3 := hG.bx.2 3 _ rfl
  have a4 := hG.bx.2 4 _ rfl
  have a5 := hG.bx.2 5 _ rfl
  go_at_call 33
  refine (CN.out _ 4 _ _ hR.rd hR.rf i5.1 i5.2 (by omega) (by omega)).mono ?_
  rintro e w8 ⟨rfl, hX⟩
  replace hR := hR.read hX
  replace hG := hG.read hX
  clear hX
  clear a0 a1 a2 a3 a4 a5
  have a0 := hG.bx.2 0 _ rfl
  have a1 := hG.bx.2 1 _ rfl
  have a2 := hG.bx.2 2 _ rfl
  have a3 := hG.bx.2 3 _ rfl
  have a4 := hG.bx.2 4 _ rfl
  have a5 := hG.bx.2 5 _ rfl
  have q4 := hG.fx.2 4
  go_wp2_with fail
  replace hR := hR.set g 4 (.int .i64 (numAt s (nxP s (nxP s (nxP s (nxP s (nxP s 0 1) 3) 2) 2) 4) 4)) hG.lt
  replace hG : Gx w.heap.size _ g [.bool true, .bool true, .int .i64 (numAt s (nxP s (nxP s (nxP s (nxP s 0 1) 3) 2) 2) 4), .bool true, .int .i64 (numAt s (nxP s (nxP s (nxP s (nxP s (nxP s 0 1) 3) 2) 2) 4) 4), .string ⟨#[]⟩] := hG.set 4 (.int .i64 (numAt s (nxP s (nxP s (nxP s (nxP s (nxP s 0 1) 3) 2) 2) 4) 4))
  generalize hW : w8.setCell ⟨g, 4, none⟩ (.int .i64 (numAt s (nxP s (nxP s (nxP s (nxP s (nxP s 0 1) 3) 2) 2) 4) 4)) = w9 at *
  clear hW q4
  clear a0 a1 a2 a3 a4 a5
  have a0 := hG.bx.2 0 _ rfl
  have a1 := hG.bx.2 1 _ rfl
  have a2 := hG.bx.2 2 _ rfl
  have a3 := hG.bx.2 3 _ rfl
  have a4 := hG.bx.2 4 _ rfl
  have a5 := hG.bx.2 5 _ rfl
  go_at_call 35
  refine (CR.out _ _ _ hR.rd i6.1 i6.2).mono ?_
  rintro e w10 ⟨rfl, hX⟩
  replace hR := hR.more hX
  replace hG := hG.more hX
  clear hX
  clear a0 a1 a2 a3 a4 a5
  have a0 := hG.bx.2 0 _ rfl
  have a1 := hG.bx.2 1 _ rfl
  have a2 := hG.bx.2 2 _ rfl
  have a3 := hG.bx.2 3 _ rfl
  have a4 := hG.bx.2 4 _ rfl
  have a5 := hG.bx.2 5 _ rfl
  have q5 := hG.fx.2 5
  have rd2 := hR.rd.2 2 _ rfl
  have hgl := hG.lt
  by_cases h8 : 16 ≤ (s.size : Int)
  · have hh := HY.out h8
    rw [hh.2.1] at rd2
    rw [hh.1]
    have HD : Hid (grd s = ⟨true, true, numAt s 8 4, true, numAt s 12 4, s.extract 16 s.size⟩) := by
      show _ = _
      have e1 : gpK s = 8 := by unfold gpK; rw [hga]; rfl
      have e2 : gpS s = 12 := by unfold gpS; rw [hgb, e1]; rfl
      unfold grd; rw [hga, hgb, hgc, hpD, e1, e2]; rfl
    have HV : Hid (gsv s = numAt s 4 2) := by show _ = _; unfold gsv; rw [hga]; rfl
    have bv := gsv_bd s
    have bk := grd_key s
    have bd := grd_data s
    have CF : Hid (∀ u : World, Calls Try.prog 36 #[.iface 59 (.agg (grT (grd s) (gsv s))), .string s] u fun e w' => e = .returned (.int .i64 (grF (grd s) (gsv s) s)) ∧ Below u.heap.size u w') := fun u => i_faultGr _ _ s u bv.1 bv.2 bk.1 bk.2 (by omega)
    have HC : Hid (grC s = grF (grd s) (gsv s) s) := by show _ = _; unfold grC grF; rw [hpD, if_pos h8]
    have HYs : Hid (grC s = 0 → grR s = grd s ∧ grC s = 0) := fun h => gr_yes h
    have HNs : Hid (∀ k : Int, grC s = k → ¬ k = 0 → grR s = gr0 ∧ grC s = k) := fun k h hk => gr_no h hk
    generalize grF (grd s) (gsv s) s = fv at *
    rw [HD.out, HV.out] at CF
    simp only [grT] at CF
    clear bv bk bd HN CP CN CR hm0 hm1 m7 m5 m4
    rw [hh.2.2.2.2.2.2] at hG a4
    rw [hh.2.2.2.2.2.1] at hG a2
    rw [hh.2.2.2.1]
    simp only [Int.reduceToNat]
    clear HY hh
    generalize numAt s 8 4 = nk at *
    generalize numAt s 12 4 = ns at *
    generalize numAt s 4 2 = nv at *
    generalize s.extract 16 s.size = da at *
    clear i1 i2 i3 i4 i5 i6
    go_wp2_with fail
    replace hR := hR.set g 5 (.string da) hG.lt
    replace hG : Gx w.heap.size _ g [.bool true, .bool true, .int .i64 nk, .bool true, .int .i64 ns, .string da] := hG.set 5 (.string da)
    generalize hW : World.setCell _ ⟨g, 5, none⟩ (.string da) = w99 at *
    clear hW q5 hgl
    go_at_call 36
    refine (CF.out _).mono ?_
    rintro e wf ⟨rfl, hX⟩
    replace hR := hR.more hX
    replace hG := hG.more hX
    clear hX rd2
    clear a0 a1 a2 a3 a4 a5
    have a0 := hG.bx.2 0 _ rfl
    have a1 := hG.bx.2 1 _ rfl
    have a2 := hG.bx.2 2 _ rfl
    have a3 := hG.bx.2 3 _ rfl
    have a4 := hG.bx.2 4 _ rfl
    have a5 := hG.bx.2 5 _ rfl
    have r0 := hR.out.2 0 _ rfl
    have r1 := hR.out.2 1 _ rfl
    have r2 := hR.out.2 2 _ rfl
    have r3 := hR.out.2 3 _ rfl
    have r4 := hR.out.2 4 _ rfl
    have r5 := hR.out.2 5 _ rfl
    have v0 := hR.fr.2 0
    have v1 := hR.fr.2 1
    have v2 := hR.fr.2 2
    have v3 := hR.fr.2 3
    have v4 := hR.fr.2 4
    have v5 := hR.fr.2 5
    have hgl := hG.lt
    have hB := hR.below
    by_cases hfv : fv = 0
    · have hf2 : (fv != 0) = false := by simp [hfv]
      have Z9 := HYs.out (HC.out.trans hfv)
      have ZZ : Hid (grL (grR s) = #[.bool true, .bool true, .int .i64 nk, .bool true, .int .i64 ns, .string da] ∧ grC s = 0) := ⟨by rw [Z9.1, HD.out]; rfl, Z9.2⟩
      clear Z9 hfv HYs HNs HC
      go_wp2
      refine bodyPost_ret (v := .tuple #[.agg #[.bool true, .bool true, .int .i64 nk, .bool true, .int .i64 ns, .string da], .int .i64 0]) ?_ rfl ⟨by rw [ZZ.out.1, ZZ.out.2], ?_⟩
      · simp [results, Try.results11, go_sem, r0, r1, r2, r3, r4, r5]
      · go_grown
    · have hf2 : (fv != 0) = true := by simp [hfv]
      have Z9 := HNs.out fv HC.out hfv
      have ZZ : Hid (grL (grR s) = #[.bool false, .bool false, .int .i64 0, .bool false, .int .i64 0, .string ⟨#[]⟩] ∧ grC s = fv) := ⟨by rw [Z9.1]; rfl, Z9.2⟩
      clear Z9 hfv HYs HNs HC
      go_wp2
      refine bodyPost_ret (v := .tuple #[.agg #[.bool false, .bool false, .int .i64 0, .bool false, .int .i64 0, .string ⟨#[]⟩], .int .i64 fv]) ?_ rfl ⟨by rw [ZZ.out.1, ZZ.out.2], ?_⟩
      · simp [results, Try.results11, go_sem, r0, r1, r2, r3, r4, r5]
      · go_grown
  · rw [HN.out (by omega)] at rd2
    have Z9 := gr_no (s := s) (k := 1) (by unfold grC; rw [hpD, if_neg h8]) (by decide)
    have ZZ : Hid (grL (grR s) = #[.bool false, .bool false, .int .i64 0, .bool false, .int .i64 0, .string ⟨#[]⟩] ∧ grC s = 1) := ⟨by rw [Z9.1]; rfl, Z9.2⟩
    clear Z9 HY HN CP CN CR hm0 hm1 m7 m5 m4
    have r0 := hR.out.2 0 _ rfl
    have r1 := hR.out.2 1 _ rfl
    have r2 := hR.out.2 2 _ rfl
    have r3 := hR.out.2 3 _ rfl
    have r4 := hR.out.2 4 _ rfl
    have r5 := hR.out.2 5 _ rfl
    have v0 := hR.fr.2 0
    have v1 := hR.fr.2 1
    have v2 := hR.fr.2 2
    have v3 := hR.fr.2 3
    have v4 := hR.fr.2 4
    have v5 := hR.fr.2 5
    have hB := hR.below
    clear hR hG
    go_wp2
    refine bodyPost_ret (v := .tuple #[.agg #[.bool false, .bool false, .int .i64 0, .bool false, .int .i64 0, .string ⟨#[]⟩], .int .i64 1]) ?_ rfl ⟨by rw [ZZ.out.1, ZZ.out.2], ?_⟩
    · simp [results, Try.results11, go_sem, r0, r1, r2, r3, r4, r5]
    · go_grown
theorem i_ReadGre (s : ByteArray) (w : World) (hs : s.size ≤ 1048576) :
    Calls Try.prog 11 #[.string s] w fun e w' => e = .returned (.tuple #[.agg (grL (grR s)), .int .i64 (grC s)]) ∧ Below w.heap.size w w' := by
  cases ha : gra s <;> cases hb : grb s <;> cases hc : grc s
  · exact i_RG000 s w hs ha hb hc
  · exact i_RG001 s w hs ha hb hc
  · exact i_RG010 s w hs ha hb hc
  · exact i_RG011 s w hs ha hb hc
  · exact i_RG100 s w hs ha hb hc
  · exact i_RG101 s w hs ha hb hc
  · exact i_RG110 s w hs ha hb hc
  · exact i_RG111 s w hs ha hb hc
end Go.Proofs.Ytgbpecjgpiffmaa
