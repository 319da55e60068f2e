/-
  A text cut at a sign, a number read in decimal: the model.
-/
import Derived.Test.YtgknkhhoelgnhaaDoorAdr3
import Derived.BigQuiet
namespace Go.Proofs.YtgknkhhoelgnhaaDoor
open Go.RowKit Go.PlainAid
def intN : Value → Int
  | .int _ n => n
  | _ => 0
theorem index_at {l : List UInt8} {j : Nat} (h : ∀ k, k < j → l[k]? ≠ some 46) (hj : l[j]? = some 46) : Lib.indexByte l 46 = (j : Int) := by
  obtain ⟨hlt, he⟩ := List.getElem?_eq_some_iff.1 hj
  have e : l = l.take j ++ 46 :: l.drop (j + 1) := by
    have := List.take_append_drop j l
    rw [List.drop_eq_getElem_cons hlt, he] at this
    exact this.symm
  have := index_app (l.take j) (l.drop (j + 1)) (fun c hc e => by
    obtain ⟨k, hk⟩ := List.mem_iff_getElem?.1 hc
    rw [List.getElem?_take] at hk
    split at hk
    · rename_i hkj; subst e; exact h k hkj hk
    · cases hk)
  rw [← e, List.length_take, Nat.min_eq_left (by omega)] at this
  exact this
theorem index_none {l : List UInt8} (h : ∀ k, k < l.length → l[k]? ≠ some 46) : Lib.indexByte l 46 = -1 :=
  index_non l fun c hc e => by
    obtain ⟨k, hk⟩ := List.mem_iff_getElem?.1 hc
    subst e
    exact h k (List.getElem?_eq_some_iff.1 hk).1 hk
/-- a text cut at its first point -/
def cutV (s : ByteArray) : Value := if Lib.indexByte (bl s) 46 = -1 then .tuple #[.string s, .string ⟨#[]⟩, .bool false] else .tuple #[.string (s.extract 0 (Lib.indexByte (bl s) 46).toNat), .string (s.extract ((Lib.indexByte (bl s) 46).toNat + 1) s.size), .bool true]
set_option maxRecDepth 100000 in
set_option maxHeartbeats 3200000 in
theorem s_Cut46 (s : ByteArray) (w : World) (hs : s.size ≤ 1099511627776) :
    Calls Tryd.prog 38 #[.string s, .int .u8 46] w fun e w' => e = .returned (cutV s) ∧ Below w.heap.size w w' := by
  go_enter Tryd.func38, Tryd.ntmps38
  go_wp2
  go_loopw [7] (fun i wr => ∃ j : Nat, j ≤ s.size ∧ i = .int .i64 (j : Int) ∧ (∀ k, k < j → (bl s)[k]? ≠ some 46) ∧ wr = w) (fun i _ => ((s.size : Int) - intN i).toNat)
  case atStart => exact ⟨0, by omega, rfl, fun k hk => absurd hk (by omega), rfl⟩
  case round =>
    obtain ⟨j, hj, rfl, hno, rfl⟩ := hrel
    by_cases hjs : j < s.size
    · have hjl : j < (bl s).length := by rw [bl_length]; exact hjs
      have hgj : (bl s)[j]? = some (s[j]'hjs) := by rw [List.getElem?_eq_getElem hjl]; rfl
      have hji : (j : Int) < (s.size : Int) := by omega
      by_cases hc : (s[j]'hjs) = 46
      · have hi := index_at hno (by rw [hgj, hc])
        have HV : Hid (cutV s = .tuple #[.string (s.extract 0 j), .string (s.extract (j + 1) s.size), .bool true]) := by
          show _ = _; unfold cutV; rw [hi, if_neg (by omega), Int.toNat_natCast]
        have hcx : (((s[j]'hjs).toNat : Nat) : Int) = 46 := by rw [hc]; rfl
        have hw : IntKind.i64.wrap ((j : Int) + 1) = (j : Int) + 1 := wraps_i64 _ (by omega) (by omega)
        have hj1 : (j : Int) ≤ (s.size : Int) := by omega
        have hj2 : (j : Int) + 1 ≤ (s.size : Int) := by omega
        have ht : ((j : Int) + 1).toNat = j + 1 := by omega
        clear hno hgj hi hc
        go_wp2_with fail
        go_quiet (fail)
        go_wp2
        refine bodyPost_ret (v := .tuple #[.string (s.extract 0 j), .string (s.extract (j + 1) s.size), .bool true]) ?_ rfl ⟨by rw [HV.out], ⟨rfl, rfl, rfl, Nat.le_refl _, fun _ _ => rfl⟩⟩
        simp [results, Tryd.results38, go_sem]
      · have hcx : ((((s[j]'hjs).toNat : Nat) : Int) == 46) = false := by
          have : (s[j]'hjs).toNat ≠ 46 := fun e => hc (UInt8.toNat.inj (by rw [e]; rfl))
          simp; omega
        have hno2 : ∀ k, k < j + 1 → (bl s)[k]? ≠ some 46 := fun k hk => by
          by_cases e : k = j
          · subst e; rw [hgj]; exact fun e => hc (Option.some.inj e)
          · exact hno k (by omega)
        have HN : Hid (∀ k, k < j + 1 → (bl s)[k]? ≠ some 46) := hno2
        clear hno hno2 hgj hc
        go_wp2
        go_roundw
        case rel => exact ⟨j + 1, by omega, by go_num, HN.out, by first | rfl | trivial⟩
        case measure => simp [intN]; omega
    · have hi := index_none (l := bl s) (fun k hk => hno k (by rw [bl_length] at hk; omega))
      have HV : Hid (cutV s = .tuple #[.string s, .string ⟨#[]⟩, .bool false]) := by show _ = _; unfold cutV; rw [hi, if_pos rfl]
      have hji : ¬ (j : Int) < (s.size : Int) := by omega
      clear hno hi
      go_wp2
      refine bodyPost_ret (v := .tuple #[.string s, .string ⟨#[]⟩, .bool false]) ?_ rfl ⟨by rw [HV.out], Below.refl _ _⟩
      simp [results, Tryd.results38, go_sem]
def digB (c : UInt8) : Bool := decide (48 ≤ c.toNat ∧ c.toNat ≤ 57)
def numP (l : List UInt8) : Int := l.foldl (fun n c => 10 * n + ((c.toNat : Int) - 48)) 0
theorem numP_snoc (l : List UInt8) (c : UInt8) : numP (l ++ [c]) = 10 * numP l + ((c.toNat : Int) - 48) := by simp [numP]
/-- a number in decimal without a sign -/
def numO (l : List UInt8) : Bool := decide (1 ≤ l.length ∧ l.length ≤ 16) && !(decide (l[0]? = some 48) && decide (1 < l.length)) && l.all digB
def numV (l : List UInt8) : Value := .tuple #[.int .i64 (if numO l then numP l else 0), .bool (numO l)]
theorem numP_bd : ∀ l : List UInt8, l.all digB = true → l.length ≤ 16 → 0 ≤ numP l ∧ numP l ≤ 9999999999999999 := by
  have key : ∀ (n : Nat) (l : List UInt8), l.length = n → l.all digB = true → 0 ≤ numP l ∧ numP l < 10 ^ n := by
    intro n
    induction n with
    | zero => intro l h _; rw [List.eq_nil_of_length_eq_zero h]; simp [numP]
    | succ n ih =>
      intro l h ha
      rcases List.eq_nil_or_concat l with rfl | ⟨L, c, rfl⟩
      · simp at h
      · simp only [List.concat_eq_append] at *
        rw [List.all_append, Bool.and_eq_true] at ha
        have hc : digB c = true := by simpa using ha.2
        unfold digB at hc
        rw [decide_eq_true_eq] at hc
        obtain ⟨a, b⟩ := ih L (by simpa using h) ha.1
        rw [numP_snoc, Int.pow_succ]
        generalize (10 : Int) ^ n = T at *
        omega
  intro l ha hl
  obtain ⟨a, b⟩ := key l.length l rfl ha
  refine ⟨a, ?_⟩
  have : ∀ n : Nat, n ≤ 16 → (10 : Int) ^ n ≤ 10 ^ 16 := fun n hn => by
    have : (10 : Nat) ^ n ≤ 10 ^ 16 := Nat.pow_le_pow_right (by decide) hn
    exact_mod_cast this
  have := this l.length hl
  have e : (10 : Int) ^ 16 = 10000000000000000 := by decide
  omega
theorem numO_bad {l : List UInt8} (j : Nat) (h : (l.take j).all digB = false) : numO l = false := by
  have : l.all digB = false := by
    cases e : l.all digB
    · rfl
    · have := List.all_eq_true.1 e
      have h2 : (l.take j).all digB = true := List.all_eq_true.2 fun x hx => this x (List.mem_of_mem_take hx)
      rw [h2] at h; cases h
  unfold numO; rw [this]; simp
theorem numO_good {l : List UInt8} (ha : l.all digB = true) (h1 : 1 ≤ l.length ∧ l.length ≤ 16) (h0 : l[0]? = some 48 → ¬ 1 < l.length) : numO l = true := by
  unfold numO
  rw [ha]
  simp only [Bool.and_true, Bool.and_eq_true, decide_eq_true_eq, Bool.not_eq_true', Bool.and_eq_false_iff, decide_eq_false_iff_not]
  refine ⟨h1, ?_⟩
  by_cases h : l[0]? = some 48
  · exact .inr (h0 h)
  · exact .inl h
theorem numO_long {l : List UInt8} (h : 16 < l.length) : numO l = false := by unfold numO; rw [decide_eq_false (p := 1 ≤ l.length ∧ l.length ≤ 16) (by omega)]; rfl
theorem numO_zero {l : List UInt8} (h : l[0]? = some 48) (h1 : 1 < l.length) : numO l = false := by unfold numO; rw [decide_eq_true (p := l[0]? = some 48) h, decide_eq_true (p := 1 < l.length) h1]; simp
theorem num_byte : ∀ r : Fin 256, numO (Lib.decDigits r.val) = true ∧ numP (Lib.decDigits r.val) = (r.val : Int) ∧ (Lib.decDigits r.val)[0]? ≠ some 45 := by decide +kernel
set_option maxRecDepth 100000 in
set_option maxHeartbeats 12800000 in
theorem s_Num0 (s : ByteArray) (w : World) (hs : s.size ≤ 1099511627776) (hneg : ¬ (1 < s.size ∧ (bl s)[0]? = some 45 ∧ (bl s)[1]? ≠ some 48 ∧ (bl s)[1]? ≠ some 45)) :
    Calls Tryd.prog 39 #[.string s] w fun e w' => e = .returned (numV (bl s)) ∧ w' = w := by
  have hbl := bl_length s
  by_cases hz : s.size = 0
  · have hz1 : (s.size : Int) < 1 := by omega
    have hz2 : ¬ (1 : Int) < (s.size : Int) := by omega
    have HV : Hid (numV (bl s) = .tuple #[.int .i64 0, .bool false]) := by
      show _ = _
      have : numO (bl s) = false := by unfold numO; rw [decide_eq_false (p := 1 ≤ (bl s).length ∧ (bl s).length ≤ 16) (by omega)]; rfl
      unfold numV; rw [this]; rfl
    clear hneg hbl
    go_enter Tryd.func39, Tryd.ntmps39
    go_wp2
    refine bodyPost_ret (v := .tuple #[.int .i64 0, .bool false]) ?_ rfl ⟨by rw [HV.out], rfl⟩
    simp [results, Tryd.results39, go_sem]
  · have h0 : 0 < s.size := by omega
    have g0 : (bl s)[0]? = some (s[0]'h0) := by rw [List.getElem?_eq_getElem (by omega)]; rfl
    have hge : ¬ (s.size : Int) < 1 := by omega
    obtain ⟨X0, hX0⟩ : ∃ X0 : Int, (((s[0]'h0).toNat : Nat) : Int) = X0 := ⟨_, rfl⟩
    by_cases h1 : s.size = 1
    · have h2 : ¬ (1 : Int) < (s.size : Int) := by omega
      have h16 : ¬ (16 : Int) < (s.size : Int) := by omega
      have hwhy : (bl s)[0]? = some 48 → ¬ 1 < (bl s).length := fun _ => by omega
      have hlen : 1 ≤ (bl s).length ∧ (bl s).length ≤ 16 := by omega
      have hl16 : s.size ≤ 16 := by omega
      clear hneg g0 hz
      cases hq : (X0 == 48)
      all_goals
        go_enter Tryd.func39, Tryd.ntmps39
        go_wp2
        go_loopw [6, 7] (fun n i wr => ∃ j : Nat, j ≤ s.size ∧ n = .int .i64 (numP ((bl s).take j)) ∧ i = .int .i64 (j : Int) ∧ ((bl s).take j).all digB = true ∧ wr = w) (fun _ i _ => ((s.size : Int) - intN i).toNat)
        case atStart => exact ⟨0, by omega, rfl, rfl, rfl, rfl⟩
        case round =>
          obtain ⟨j, hj, rfl, rfl, hall, rfl⟩ := hrel
          obtain ⟨q0, q1⟩ := numP_bd ((bl s).take j) hall (by rw [List.length_take]; omega)
          by_cases hjs : j < s.size
          · have hjl : j < (bl s).length := by rw [bl_length]; exact hjs
            have htk : (bl s).take (j + 1) = (bl s).take j ++ [s[j]'hjs] := by rw [List.take_succ_eq_append_getElem hjl]; rfl
            have hx := (s[j]'hjs).toNat_lt
            have hji : (j : Int) < (s.size : Int) := by omega
            have hnp : numP ((bl s).take (j + 1)) = 10 * numP ((bl s).take j) + (((s[j]'hjs).toNat : Int) - 48) := by rw [htk, numP_snoc]
            have hal : ((bl s).take (j + 1)).all digB = digB (s[j]'hjs) := by rw [htk, List.all_append, hall]; simp
            have hbad : digB (s[j]'hjs) = false → numO (bl s) = false := fun h => numO_bad (j + 1) (by rw [hal, h])
            obtain ⟨X, hX⟩ : ∃ X : Int, (((s[j]'hjs).toNat : Nat) : Int) = X := ⟨_, rfl⟩
            have hdg : digB (s[j]'hjs) = decide (48 ≤ X ∧ X ≤ 57) := by unfold digB; exact decide_eq_decide.2 (by omega)
            rw [hX] at hnp
            have hX0 : 0 ≤ X ∧ X ≤ 255 := by omega
            obtain ⟨hXa, hXb⟩ := hX0
            by_cases h1 : X < 48
            · have HV : Hid (numV (bl s) = .tuple #[.int .i64 0, .bool false]) := by show _ = _; unfold numV; rw [hbad (by rw [hdg]; simp; omega)]; rfl
              clear hbad hdg hal hnp htk hall q0 q1
              go_wp2
              refine bodyPost_ret (v := .tuple #[.int .i64 0, .bool false]) ?_ rfl ⟨by rw [HV.out], rfl⟩
              simp [results, Tryd.results39, go_sem]
            · by_cases h2 : 57 < X
              · have HV : Hid (numV (bl s) = .tuple #[.int .i64 0, .bool false]) := by show _ = _; unfold numV; rw [hbad (by rw [hdg]; simp; omega)]; rfl
                clear hbad hdg hal hnp htk hall q0 q1
                go_wp2
                refine bodyPost_ret (v := .tuple #[.int .i64 0, .bool false]) ?_ rfl ⟨by rw [HV.out], rfl⟩
                simp [results, Tryd.results39, go_sem]
              · have hd : digB (s[j]'hjs) = true := by rw [hdg]; simp; omega
                rw [hd] at hal
                have HN : Hid (numP ((bl s).take (j + 1)) = 10 * numP ((bl s).take j) + (X - 48)) := hnp
                clear hbad hdg hnp htk hall hd
                generalize numP ((bl s).take j) = P at *
                have w1 : IntKind.u8.wrap (X - 48) = X - 48 := by rw [IntKind.wrap_u8]; omega
                have w2 : IntKind.i64.wrap (10 * P) = 10 * P := wraps_i64 _ (by omega) (by omega)
                have w3 : IntKind.i64.wrap (10 * P + (X - 48)) = 10 * P + (X - 48) := wraps_i64 _ (by omega) (by omega)
                go_wp2
                go_roundw
                case rel => exact ⟨j + 1, by omega, by rw [HN.out], by go_num, hal, by first | rfl | trivial⟩
                case measure => simp [intN]; omega
          · have e : (bl s).take j = bl s := List.take_of_length_le (by rw [bl_length]; omega)
            rw [e] at hall ⊢
            have hji : ¬ (j : Int) < (s.size : Int) := by omega
            have HV : Hid (numV (bl s) = .tuple #[.int .i64 (numP (bl s)), .bool true]) := by show _ = _; unfold numV; rw [numO_good hall hlen hwhy]; rfl
            clear q0 q1 hall e
            generalize numP (bl s) = P at *
            go_wp2
            refine bodyPost_ret (v := .tuple #[.int .i64 P, .bool true]) ?_ rfl ⟨by rw [HV.out], rfl⟩
            simp [results, Tryd.results39, go_sem]
    · have h2 : (1 : Int) < (s.size : Int) := by omega
      have h21 : 1 < s.size := by omega
      have g1 : (bl s)[1]? = some (s[1]'h21) := by rw [List.getElem?_eq_getElem (by omega)]; rfl
      obtain ⟨X1, hX1⟩ : ∃ X1 : Int, (((s[1]'h21).toNat : Nat) : Int) = X1 := ⟨_, rfl⟩
      have hE : ∀ (c : UInt8) (v : Nat), v < 256 → (c = UInt8.ofNat v ↔ c.toNat = v) := fun c v hv => ⟨fun e => by rw [e]; simp [UInt8.toNat_ofNat']; omega, fun e => UInt8.toNat.inj (by rw [e]; simp [UInt8.toNat_ofNat']; omega)⟩
      have k45 : (bl s)[0]? = some 45 ↔ X0 = 45 := by rw [g0]; constructor; (· intro e; have := (hE _ 45 (by decide)).1 (Option.some.inj e); omega); (· intro e; exact congrArg some ((hE _ 45 (by decide)).2 (by omega)))
      have k48 : (bl s)[0]? = some 48 ↔ X0 = 48 := by rw [g0]; constructor; (· intro e; have := (hE _ 48 (by decide)).1 (Option.some.inj e); omega); (· intro e; exact congrArg some ((hE _ 48 (by decide)).2 (by omega)))
      have j45 : (bl s)[1]? = some 45 ↔ X1 = 45 := by rw [g1]; constructor; (· intro e; have := (hE _ 45 (by decide)).1 (Option.some.inj e); omega); (· intro e; exact congrArg some ((hE _ 45 (by decide)).2 (by omega)))
      have j48 : (bl s)[1]? = some 48 ↔ X1 = 48 := by rw [g1]; constructor; (· intro e; have := (hE _ 48 (by decide)).1 (Option.some.inj e); omega); (· intro e; exact congrArg some ((hE _ 48 (by decide)).2 (by omega)))
      rw [k45, Ne, Ne, j48, j45] at hneg
      by_cases h16 : 16 < s.size
      · have h16i : (16 : Int) < (s.size : Int) := by omega
        have hO : numO (bl s) = false := numO_long (by omega)
        have hc : (X0 == 45) = false ∨ (X0 == 45) = true ∧ (X1 != 48) = false ∨ (X0 == 45) = true ∧ (X1 != 48) = true ∧ (X1 != 45) = false := by
          by_cases a : X0 = 45
          · by_cases b : X1 = 48
            · exact .inr (.inl ⟨by simp [a], by simp [b]⟩)
            · exact .inr (.inr ⟨by simp [a], by simp [b], by simp; by_cases c : X1 = 45; (· exact c); (· exact absurd ⟨h21, a, b, c⟩ hneg)⟩)
          · exact .inl (by simp [a])
        clear k45 k48 j45 j48 g0 g1 hE hneg
        rcases hc with c1 | ⟨c1, c2⟩ | ⟨c1, c2, c3⟩
        all_goals
          go_enter Tryd.func39, Tryd.ntmps39
          have HV : Hid (numV (bl s) = .tuple #[.int .i64 0, .bool false]) := by show _ = _; unfold numV; rw [hO]; rfl
          go_wp2
          refine bodyPost_ret (v := .tuple #[.int .i64 0, .bool false]) ?_ rfl ⟨by rw [HV.out], rfl⟩
          simp [results, Tryd.results39, go_sem]
      · have h16i : ¬ (16 : Int) < (s.size : Int) := by omega
        have hl16 : s.size ≤ 16 := by omega
        have hlen : 1 ≤ (bl s).length ∧ (bl s).length ≤ 16 := by omega
        by_cases a48 : X0 = 48
        · have hO : numO (bl s) = false := numO_zero (k48.2 a48) (by omega)
          have c1 : (X0 == 45) = false := by simp [a48]
          have c2 : (X0 == 48) = true := by simp [a48]
          clear k45 k48 j45 j48 g0 g1 hE hneg a48
          go_enter Tryd.func39, Tryd.ntmps39
          have HV : Hid (numV (bl s) = .tuple #[.int .i64 0, .bool false]) := by show _ = _; unfold numV; rw [hO]; rfl
          go_wp2
          refine bodyPost_ret (v := .tuple #[.int .i64 0, .bool false]) ?_ rfl ⟨by rw [HV.out], rfl⟩
          simp [results, Tryd.results39, go_sem]
        · have hwhy : (bl s)[0]? = some 48 → ¬ 1 < (bl s).length := fun e => absurd (k48.1 e) a48
          have c0 : (X0 == 48) = false := by simp [a48]
          have hc : (X0 == 45) = false ∨ (X0 == 45) = true ∧ (X1 != 48) = false ∨ (X0 == 45) = true ∧ (X1 != 48) = true ∧ (X1 != 45) = false := by
            by_cases a : X0 = 45
            · by_cases b : X1 = 48
              · exact .inr (.inl ⟨by simp [a], by simp [b]⟩)
              · exact .inr (.inr ⟨by simp [a], by simp [b], by simp; by_cases c : X1 = 45; (· exact c); (· exact absurd ⟨h21, a, b, c⟩ hneg)⟩)
            · exact .inl (by simp [a])
          clear k45 k48 j45 j48 g0 g1 hE hneg a48
          rcases hc with c1 | ⟨c1, c2⟩ | ⟨c1, c2, c3⟩
          all_goals
            go_enter Tryd.func39, Tryd.ntmps39
            go_wp2
            go_loopw [6, 7] (fun n i wr => ∃ j : Nat, j ≤ s.size ∧ n = .int .i64 (numP ((bl s).take j)) ∧ i = .int .i64 (j : Int) ∧ ((bl s).take j).all digB = true ∧ wr = w) (fun _ i _ => ((s.size : Int) - intN i).toNat)
            case atStart => exact ⟨0, by omega, rfl, rfl, rfl, rfl⟩
            case round =>
              obtain ⟨j, hj, rfl, rfl, hall, rfl⟩ := hrel
              obtain ⟨q0, q1⟩ := numP_bd ((bl s).take j) hall (by rw [List.length_take]; omega)
              by_cases hjs : j < s.size
              · have hjl : j < (bl s).length := by rw [bl_length]; exact hjs
                have htk : (bl s).take (j + 1) = (bl s).take j ++ [s[j]'hjs] := by rw [List.take_succ_eq_append_getElem hjl]; rfl
                have hx := (s[j]'hjs).toNat_lt
                have hji : (j : Int) < (s.size : Int) := by omega
                have hnp : numP ((bl s).take (j + 1)) = 10 * numP ((bl s).take j) + (((s[j]'hjs).toNat : Int) - 48) := by rw [htk, numP_snoc]
                have hal : ((bl s).take (j + 1)).all digB = digB (s[j]'hjs) := by rw [htk, List.all_append, hall]; simp
                have hbad : digB (s[j]'hjs) = false → numO (bl s) = false := fun h => numO_bad (j + 1) (by rw [hal, h])
                obtain ⟨X, hX⟩ : ∃ X : Int, (((s[j]'hjs).toNat : Nat) : Int) = X := ⟨_, rfl⟩
                have hdg : digB (s[j]'hjs) = decide (48 ≤ X ∧ X ≤ 57) := by unfold digB; exact decide_eq_decide.2 (by omega)
                rw [hX] at hnp
                have hX0 : 0 ≤ X ∧ X ≤ 255 := by omega
                obtain ⟨hXa, hXb⟩ := hX0
                by_cases h1 : X < 48
                · have HV : Hid (numV (bl s) = .tuple #[.int .i64 0, .bool false]) := by show _ = _; unfold numV; rw [hbad (by rw [hdg]; simp; omega)]; rfl
                  clear hbad hdg hal hnp htk hall q0 q1
                  go_wp2
                  refine bodyPost_ret (v := .tuple #[.int .i64 0, .bool false]) ?_ rfl ⟨by rw [HV.out], rfl⟩
                  simp [results, Tryd.results39, go_sem]
                · by_cases h2 : 57 < X
                  · have HV : Hid (numV (bl s) = .tuple #[.int .i64 0, .bool false]) := by show _ = _; unfold numV; rw [hbad (by rw [hdg]; simp; omega)]; rfl
                    clear hbad hdg hal hnp htk hall q0 q1
                    go_wp2
                    refine bodyPost_ret (v := .tuple #[.int .i64 0, .bool false]) ?_ rfl ⟨by rw [HV.out], rfl⟩
                    simp [results, Tryd.results39, go_sem]
                  · have hd : digB (s[j]'hjs) = true := by rw [hdg]; simp; omega
                    rw [hd] at hal
                    have HN : Hid (numP ((bl s).take (j + 1)) = 10 * numP ((bl s).take j) + (X - 48)) := hnp
                    clear hbad hdg hnp htk hall hd
                    generalize numP ((bl s).take j) = P at *
                    have w1 : IntKind.u8.wrap (X - 48) = X - 48 := by rw [IntKind.wrap_u8]; omega
                    have w2 : IntKind.i64.wrap (10 * P) = 10 * P := wraps_i64 _ (by omega) (by omega)
                    have w3 : IntKind.i64.wrap (10 * P + (X - 48)) = 10 * P + (X - 48) := wraps_i64 _ (by omega) (by omega)
                    go_wp2
                    go_roundw
                    case rel => exact ⟨j + 1, by omega, by rw [HN.out], by go_num, hal, by first | rfl | trivial⟩
                    case measure => simp [intN]; omega
              · have e : (bl s).take j = bl s := List.take_of_length_le (by rw [bl_length]; omega)
                rw [e] at hall ⊢
                have hji : ¬ (j : Int) < (s.size : Int) := by omega
                have HV : Hid (numV (bl s) = .tuple #[.int .i64 (numP (bl s)), .bool true]) := by show _ = _; unfold numV; rw [numO_good hall hlen hwhy]; rfl
                clear q0 q1 hall e
                generalize numP (bl s) = P at *
                go_wp2
                refine bodyPost_ret (v := .tuple #[.int .i64 P, .bool true]) ?_ rfl ⟨by rw [HV.out], rfl⟩
                simp [results, Tryd.results39, go_sem]
end Go.Proofs.YtgknkhhoelgnhaaDoor
