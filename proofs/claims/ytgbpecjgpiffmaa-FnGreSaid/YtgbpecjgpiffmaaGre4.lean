/-
  What is read as a GRE: plain facts.
-/
import Derived.Test.YtgbpecjgpiffmaaGre3
import Derived.Test.YtgbpecjgpiffmaaRdr
import Derived.Test.YtgbpecjgpiffmaaTunAs
namespace Go.Proofs.Ytgbpecjgpiffmaa
open Go.RowKit Go.PlainAid
/-! the reader's place and mark behind several reads -/
def chP (s : ByteArray) : Int → List Int → Int
  | p, [] => p
  | p, k :: ks => chP s (nxP s p k) ks
def chF (s : ByteArray) : Int → Bool → List Int → Bool
  | _, f, [] => f
  | p, f, k :: ks => chF s (nxP s p k) (nxF s p k f) ks
theorem chF_true (s : ByteArray) : ∀ (ks : List Int) (p : Int), chF s p true ks = true
  | [], _ => rfl
  | k :: ks, p => by
    have : nxF s p k true = true := by unfold nxF; split <;> rfl
    rw [chF, this]; exact chF_true s ks _
theorem ch_yes (s : ByteArray) : ∀ (ks : List Int) (p : Int) (f : Bool), (∀ k ∈ ks, 0 ≤ k) → p + ks.sum ≤ s.size → chP s p ks = p + ks.sum ∧ chF s p f ks = f
  | [], p, f, _, _ => by simp [chP, chF]
  | k :: ks, p, f, hk, h => by
    have h0 : 0 ≤ ks.sum := by
      have : ∀ l : List Int, (∀ k ∈ l, 0 ≤ k) → 0 ≤ l.sum := by
        intro l; induction l with
        | nil => simp
        | cons a l ih => intro h; have h1 := h a (by simp); have h2 := ih (fun k hk => h k (by simp [hk])); simp only [List.sum_cons]; omega
      exact this ks fun k h => hk k (by simp [h])
    simp only [List.sum_cons] at h
    have e1 : nxP s p k = p + k := if_pos (by omega)
    have e2 : nxF s p k f = f := if_pos (by omega)
    have := ch_yes s ks (p + k) f (fun k h => hk k (by simp [h])) (by omega)
    rw [chP, chF, e1, e2]
    simp only [List.sum_cons]
    exact ⟨by rw [this.1]; omega, this.2⟩
theorem ch_no (s : ByteArray) : ∀ (ks : List Int) (p : Int) (f : Bool), p ≤ s.size → (s.size : Int) < p + ks.sum → chF s p f ks = true
  | [], p, f, h0, h => by simp at h; omega
  | k :: ks, p, f, h0, h => by
    simp only [List.sum_cons] at h
    by_cases hk : p + k ≤ s.size
    · have e1 : nxP s p k = p + k := if_pos hk
      have e2 : nxF s p k f = f := if_pos hk
      rw [chF, e1, e2]
      exact ch_no s ks (p + k) f hk (by omega)
    · have e2 : nxF s p k f = true := if_neg hk
      rw [chF, e2]; exact chF_true s ks _
/-! what is read -/
def gmk (s : ByteArray) : Int := numAt s 0 1
def gra (s : ByteArray) : Bool := decide (gmk s / 128 % 2 = 1)
def grb (s : ByteArray) : Bool := decide (gmk s / 32 % 2 = 1)
def grc (s : ByteArray) : Bool := decide (gmk s / 16 % 2 = 1)
def gpK (s : ByteArray) : Int := if gra s then 8 else 4
def gpS (s : ByteArray) : Int := if grb s then gpK s + 4 else gpK s
def gpD (s : ByteArray) : Int := if grc s then gpS s + 4 else gpS s
def grd (s : ByteArray) : GrV := ⟨gra s, grb s, if grb s then numAt s (gpK s) 4 else 0, grc s, if grc s then numAt s (gpS s) 4 else 0, s.extract (gpD s).toNat s.size⟩
def gsv (s : ByteArray) : Int := if gra s then numAt s 4 2 else 0
def gr0 : GrV := ⟨false, false, 0, false, 0, ⟨#[]⟩⟩
def grC (s : ByteArray) : Int := if gpD s ≤ s.size then (if str (grText (grd s) (gsv s)) = s then (if gsv s = grSum (grd s) then 0 else 4) else 2) else 1
def grR (s : ByteArray) : GrV := if grC s = 0 then grd s else gr0
theorem gp_bd (s : ByteArray) : 4 ≤ gpK s ∧ gpK s ≤ 8 ∧ gpK s ≤ gpS s ∧ gpS s ≤ gpK s + 4 ∧ gpS s ≤ gpD s ∧ gpD s ≤ gpS s + 4 := by
  unfold gpD gpS gpK; cases gra s <;> cases grb s <;> cases grc s <;> decide
theorem numAt_bd (s : ByteArray) (p : Int) (k : Nat) : 0 ≤ numAt s p k ∧ numAt s p k < 256 ^ k := by
  unfold numAt; split
  · have := num_bounds (((bl s).drop p.toNat).take (k : Int).toNat)
    have hl : (((bl s).drop p.toNat).take (k : Int).toNat).length ≤ k := by rw [List.length_take]; exact Nat.le_trans (Nat.min_le_left _ _) (by simp)
    exact ⟨this.1, Int.lt_of_lt_of_le this.2 (ipow_le hl)⟩
  · exact ⟨by omega, Int.pow_pos (by decide)⟩
theorem numAt_be {s : ByteArray} {p k : Nat} (hk : 1 ≤ k) (hk2 : k ≤ 7) (h : p + k ≤ s.size) : be k (numAt s p k) = ((bl s).drop p).take k := by
  rw [(okN_true (s := s) (at_ := p) (k := k) ⟨by omega, by omega, by omega, by omega⟩).2]
  simp only [Int.toNat_natCast]
  exact be_num_of k _ (by rw [List.length_take, List.length_drop, bl_length]; omega)
theorem numAt_by {s : ByteArray} {p : Nat} (h : p + 4 ≤ s.size) : bytesOf (numAt s p 4) 4 = ((bl s).drop p).take 4 := by
  have hb := numAt_bd s p 4
  have e : bytesOf (numAt s p 4) 4 = be 4 (numAt s p 4) := okB_of (by decide) (by decide) hb.1 hb.2
  rw [e]; exact numAt_be (k := 4) (by decide) (by decide) h
theorem grd_ok (s : ByteArray) : grOk (grd s) = true := by
  have h1 := numAt_bd s (gpK s) 4
  have h2 := numAt_bd s (gpS s) 4
  have e1 : ((4 : Nat) : Int) = 4 := rfl
  rw [e1] at h1 h2
  unfold grOk grN grd inB
  cases grb s <;> cases grc s <;> simp <;> omega
theorem grd_key (s : ByteArray) : (grd s).key ≤ 9223372036854775807 ∧ (grd s).seq ≤ 9223372036854775807 := by
  have h1 := numAt_bd s (gpK s) 4
  have h2 := numAt_bd s (gpS s) 4
  have e1 : ((4 : Nat) : Int) = 4 := rfl
  rw [e1] at h1 h2
  unfold grd
  cases grb s <;> cases grc s <;> simp <;> omega
theorem gsv_bd (s : ByteArray) : 0 ≤ gsv s ∧ gsv s ≤ 65535 := by
  have h1 := numAt_bd s 4 2
  have e1 : ((2 : Nat) : Int) = 2 := rfl
  rw [e1] at h1
  unfold gsv; split <;> omega
theorem grd_data (s : ByteArray) : (grd s).data.size ≤ s.size := by
  unfold grd; simp
/-- the first four bytes as they are written -/
def grH (g : GrV) : List UInt8 := be 1 (grFl g) ++ be 1 0 ++ be 2 25944
theorem grH_len (g : GrV) : (grH g).length = 4 := by simp only [grH, List.length_append, be_length]
/-- what stands behind the sum -/
def grT2 (g : GrV) : List UInt8 := (if g.hasKey then bytesOf g.key 4 else []) ++ (if g.hasSeq then bytesOf g.seq 4 else []) ++ bl g.data
theorem grAll (g : GrV) (x : Int) : grHd g x ++ bl g.data = grH g ++ ((if g.sum then be 2 x ++ be 2 0 else []) ++ grT2 g) := by
  unfold grHd grH grT2; simp only [List.append_assoc]
theorem drop_split (l : List UInt8) (p q : Nat) (h : p ≤ q) : l.drop p = (l.drop p).take (q - p) ++ l.drop q := by
  rw [show l.drop q = (l.drop p).drop (q - p) from by rw [List.drop_drop]; congr 1; omega]
  exact (List.take_append_drop _ _).symm
theorem grRest (s : ByteArray) (h : gpD s ≤ s.size) : (bl s).drop (gpK s).toNat = grT2 (grd s) := by
  have hb := gp_bd s
  have hd : bl (s.extract (gpD s).toNat s.size) = (bl s).drop (gpD s).toNat := by
    have := str_extract (bl s) (gpD s).toNat s.size
    rw [str_bl] at this
    rw [this, bl_str, List.take_of_length_le]
    rw [List.length_drop, bl_length]; omega
  unfold grT2 grd
  simp only []
  rw [hd]
  cases hb1 : grb s <;> cases hc1 : grc s
  all_goals
    simp only [Bool.false_eq_true, if_false, if_true, List.nil_append]
  · have e1 : gpS s = gpK s := by unfold gpS; rw [hb1]; rfl
    have e2 : gpD s = gpS s := by unfold gpD; rw [hc1]; rfl
    rw [e2, e1]
  · have e1 : gpS s = gpK s := by unfold gpS; rw [hb1]; rfl
    have e2 : gpD s = gpS s + 4 := by unfold gpD; rw [hc1]; rfl
    obtain ⟨n, hn⟩ : ∃ n : Nat, gpK s = n := ⟨(gpK s).toNat, by omega⟩
    rw [e2, e1, hn, numAt_by (by omega), show ((n : Int) + 4).toNat = n + 4 by omega]
    have := drop_split (bl s) n (n + 4) (by omega)
    rw [show n + 4 - n = 4 by omega] at this
    exact this
  · have e1 : gpS s = gpK s + 4 := by unfold gpS; rw [hb1]; rfl
    have e2 : gpD s = gpS s := by unfold gpD; rw [hc1]; rfl
    obtain ⟨n, hn⟩ : ∃ n : Nat, gpK s = n := ⟨(gpK s).toNat, by omega⟩
    rw [e2, e1, hn, numAt_by (by omega), show ((n : Int) + 4).toNat = n + 4 by omega, List.append_nil]
    have := drop_split (bl s) n (n + 4) (by omega)
    rw [show n + 4 - n = 4 by omega] at this
    exact this
  · have e1 : gpS s = gpK s + 4 := by unfold gpS; rw [hb1]; rfl
    have e2 : gpD s = gpS s + 4 := by unfold gpD; rw [hc1]; rfl
    obtain ⟨n, hn⟩ : ∃ n : Nat, gpK s = n := ⟨(gpK s).toNat, by omega⟩
    have e3 : ((n : Int) + 4) = ((n + 4 : Nat) : Int) := by omega
    rw [e2, e1, hn, numAt_by (by omega), e3, numAt_by (by omega), show (((n + 4 : Nat) : Int) + 4).toNat = n + 8 by omega]
    have h1 := drop_split (bl s) n (n + 4) (by omega)
    have h2 := drop_split (bl s) (n + 4) (n + 8) (by omega)
    rw [show n + 4 - n = 4 by omega] at h1
    rw [show n + 8 - (n + 4) = 4 by omega] at h2
    rw [Int.toNat_natCast, List.append_assoc, ← h2]; exact h1
theorem grWhole (s : ByteArray) (h : gpD s ≤ s.size) : bl s = (bl s).take 4 ++ ((if gra s then be 2 (gsv s) ++ ((bl s).drop 6).take 2 else []) ++ grT2 (grd s)) := by
  have hb := gp_bd s
  rw [← grRest s h]
  cases ha : gra s
  · have e1 : gpK s = 4 := by unfold gpK; rw [ha]; rfl
    rw [e1]; simp
  · have e1 : gpK s = 8 := by unfold gpK; rw [ha]; rfl
    have e2 : gsv s = numAt s (4 : Nat) (2 : Nat) := by unfold gsv; rw [ha]; rfl
    rw [e1, e2, numAt_be (by decide) (by decide) (by omega)]
    simp only [if_true, Int.reduceToNat]
    have h1 := drop_split (bl s) 4 6 (by omega)
    have h2 := drop_split (bl s) 6 8 (by omega)
    rw [List.append_assoc, ← h2, ← h1, List.take_append_drop]
theorem be2_inj {a b : Int} (a0 : 0 ≤ a) (a1 : a ≤ 65535) (b0 : 0 ≤ b) (b1 : b ≤ 65535) (h : be 2 a = be 2 b) : a = b := by
  have h1 := num_be 2 a a0 (by have : (256 : Int) ^ 2 = 65536 := by decide
                               omega)
  have h2 := num_be 2 b b0 (by have : (256 : Int) ^ 2 = 65536 := by decide
                               omega)
  rw [h] at h1; omega
/-- when what is written is what was read -/
theorem grText_iff (s : ByteArray) (x : Int) (h : gpD s ≤ s.size) : (str (grText (grd s) x) = s) ↔ (carB (grd s).data = true ∧ grH (grd s) = (bl s).take 4 ∧ (gra s = true → be 2 x = be 2 (gsv s) ∧ ((bl s).drop 6).take 2 = be 2 0)) := by
  have hb := gp_bd s
  have hsz : 4 ≤ (bl s).length := by rw [bl_length]; omega
  have hw := grWhole s h
  have hsum : (grd s).sum = gra s := rfl
  have e0 : (str (grText (grd s) x) = s) ↔ (grText (grd s) x = bl s) := by
    constructor
    · intro h; exact congrArg bl h
    · intro h; rw [h, str_bl]
  rw [e0]
  unfold grText
  rw [grd_ok, Bool.true_and]
  cases hc : carB (grd s).data
  · simp only [Bool.false_eq_true, if_false, false_and, iff_false]
    intro h0; rw [← h0] at hsz; simp at hsz
  · simp only [if_true, true_and]
    rw [grAll, hsum]
    have hl4 : (grH (grd s)).length = ((bl s).take 4).length := by rw [grH_len, List.length_take]; omega
    constructor
    · intro h0
      rw [hw] at h0
      obtain ⟨k1, k2⟩ := List.append_inj h0 hl4
      refine ⟨k1, fun ha => ?_⟩
      rw [ha] at k2
      simp only [if_true, List.append_assoc] at k2
      have hk2 : (((bl s).drop 6).take 2).length = 2 := by
        have : gpK s = 8 := by unfold gpK; rw [ha]; rfl
        rw [List.length_take, List.length_drop, bl_length]; omega
      obtain ⟨m1, m2⟩ := List.append_inj k2 (by rw [be_length, be_length])
      obtain ⟨m3, _⟩ := List.append_inj m2 (by rw [be_length, hk2])
      exact ⟨m1, m3.symm⟩
    · rintro ⟨k1, k2⟩
      conv => rhs; rw [hw]
      rw [k1]
      cases ha : gra s
      · rfl
      · obtain ⟨m1, m2⟩ := k2 ha
        rw [m1, m2]
theorem gr_same (s : ByteArray) (h : gpD s ≤ s.size) : (str (grText (grd s) (grSum (grd s))) = s) ↔ (str (grText (grd s) (gsv s)) = s ∧ gsv s = grSum (grd s)) := by
  rw [grText_iff s _ h, grText_iff s _ h]
  have b1 := grSum_bd (grd s)
  have b2 := gsv_bd s
  constructor
  · rintro ⟨h1, h2, h3⟩
    refine ⟨⟨h1, h2, fun ha => ⟨rfl, (h3 ha).2⟩⟩, ?_⟩
    cases ha : gra s
    · have e1 : gsv s = 0 := by unfold gsv; rw [ha]; rfl
      have e2 : grSum (grd s) = 0 := by unfold grSum; rw [show (grd s).sum = gra s from rfl, ha]; rfl
      rw [e1, e2]
    · exact (be2_inj b1.1 b1.2 b2.1 b2.2 (h3 ha).1).symm
  · rintro ⟨⟨h1, h2, h3⟩, h4⟩
    exact ⟨h1, h2, fun ha => ⟨by rw [h4], (h3 ha).2⟩⟩
/-- the model's second case -/
def grCase (s t : ByteArray) : Bool := gra s && (decide (t.size = s.size) && (decide (t.extract 0 4 = s.extract 0 4) && decide (s.extract 6 8 = ⟨#[0, 0]⟩)))
theorem grText_len (s : ByteArray) (h : gpD s ≤ s.size) (x : Int) (hc : carB (grd s).data = true) : (grText (grd s) x).length = s.size := by
  have hb := gp_bd s
  have hw := congrArg List.length (grWhole s h)
  unfold grText
  rw [grd_ok, hc]
  simp only [Bool.and_self, if_true]
  rw [grAll, show (grd s).sum = gra s from rfl]
  rw [bl_length] at hw
  rw [hw]
  simp only [List.length_append, grH_len, List.length_take, bl_length]
  cases ha : gra s
  · simp only [Bool.false_eq_true, if_false, List.length_nil]; omega
  · have hk : gpK s = 8 := by unfold gpK; rw [ha]; rfl
    simp only [if_true, List.length_append, be_length, List.length_take, List.length_drop, bl_length]; omega
theorem grCase_iff (s : ByteArray) (h : gpD s ≤ s.size) (hne : ¬ str (grText (grd s) (grSum (grd s))) = s) : grCase s (str (grText (grd s) (grSum (grd s)))) = decide (str (grText (grd s) (gsv s)) = s) := by
  have hb := gp_bd s
  rw [Bool.eq_iff_iff, decide_eq_true_iff, grText_iff s _ h]
  unfold grCase
  simp only [Bool.and_eq_true, decide_eq_true_iff]
  have hx : ∀ t : ByteArray, ∀ a b : Nat, t.extract a b = str (((bl t).drop a).take (b - a)) := fun t a b => by
    have := str_extract (bl t) a b
    rw [str_bl] at this; exact this
  have hz : (⟨#[0, 0]⟩ : ByteArray) = str (be 2 0) := by decide
  have inj : ∀ a b : List UInt8, str a = str b ↔ a = b := fun a b => ⟨fun h => by have := congrArg bl h; exact this, fun h => by rw [h]⟩
  rw [hx, hx, hx, hz, inj, inj, str_size, bl_str]
  simp only [List.drop_zero, Nat.sub_zero, Nat.reduceSub]
  constructor
  · rintro ⟨ha, h1, h2, h3⟩
    have hc : carB (grd s).data = true := by
      cases hc : carB (grd s).data
      · unfold grText at h1; rw [hc] at h1; simp at h1; omega
      · rfl
    have ht : (grText (grd s) (grSum (grd s))).take 4 = grH (grd s) := by
      unfold grText; rw [grd_ok, hc]
      simp only [Bool.and_self, if_true]
      rw [grAll]
      have := grH_len (grd s)
      rw [← this]; simp
    exact ⟨hc, by rw [← ht, h2], fun _ => ⟨trivial, h3⟩⟩
  · rintro ⟨hc, h2, h3⟩
    have ha : gra s = true := by
      cases ha : gra s
      · exfalso
        apply hne
        rw [gr_same s h, grText_iff s _ h]
        have e1 : gsv s = 0 := by unfold gsv; rw [ha]; rfl
        have e2 : grSum (grd s) = 0 := by unfold grSum; rw [show (grd s).sum = gra s from rfl, ha]; rfl
        exact ⟨⟨hc, h2, fun h => by rw [ha] at h; cases h⟩, by rw [e1, e2]⟩
      · rfl
    have ht : (grText (grd s) (grSum (grd s))).take 4 = grH (grd s) := by
      unfold grText; rw [grd_ok, hc]
      simp only [Bool.and_self, if_true]
      rw [grAll]
      have := grH_len (grd s)
      rw [← this]; simp
    exact ⟨ha, grText_len s h _ hc, by rw [ht, h2], (h3 ha).2⟩
end Go.Proofs.Ytgbpecjgpiffmaa
